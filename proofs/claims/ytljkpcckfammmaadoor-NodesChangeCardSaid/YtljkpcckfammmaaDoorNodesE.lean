/- Contracts of the document's own answers for layer nodes (3): the first ones, how many are below a node, without some; and the law's own sameness of lists. -/
import Derived.Test.YtljkpcckfammmaaDoorNodesD
import Derived.Deep.QuietTactic
import Derived.BigQuiet
namespace Go.Proofs.YtljkpcckfammmaaDoor.Nodes
open Go.ChangeShapes Go.WideShapes Go.ChangeAt Go.RowKit
set_option linter.unusedVariables false

theorem Rd.take {w : World} {ad : Option Addr} {zs : List Int} (h : Rd w ad zs) (k : Nat) : Rd w ad (zs.take k) := by
  rcases h with rfl | ⟨b, off, e, hc⟩
  · exact .inl (by simp)
  · refine .inr ⟨b, off, e, fun i hi => ?_⟩
    rw [List.length_take] at hi
    rw [hc i (by omega)]
    simp [List.getD, show i < k from by omega]
theorem ofL_take (S K : Nat) : ofL ((memI S).take K) = firstN S K := by
  rw [memI, ← List.map_take, ofL_map]; rfl
theorem rfirst_any (S : Nat) (hS : S < 18446744073709551616) (z : Int) (w : World) :
    Calls Tryd.prog 29 #[.int .u64 S, .int .i64 z] w fun e w' => e = .returned (.int .u64 (firstN S z.toNat)) ∧ Below w.heap.size w w' := by
  have C := Lib.hid (rlist_any S hS w)
  have HT := Lib.hid (ofL_take S z.toNat)
  have HN := (show (memI S).length ≤ 64 by rw [memI_len]; exact mem_le S)
  generalize memI S = ms at *
  by_cases hz : z < 0
  · have H0 := Lib.hid (show z.toNat = 0 by omega)
    go_enter Tryd.func29, Tryd.ntmps29
    go_wp2_with fail
    refine (C.out).mono ?_; rintro e w1 ⟨ad1, cap1, rfl, hown, hB⟩
    have C2 := Lib.hid (fun c => rof_any ad1 0 c (ms.take 0) w1 (by simp) (by omega) (hown.rd.1.take 0))
    have HT0 := Lib.hid (show ofL (ms.take 0) = firstN S z.toNat by rw [← HT.out, H0.out])
    rw [HT0.out] at C2
    by_cases hlt : 0 < ms.length
    · go_wp2_with fail
      refine (C2.out _).mono ?_; rintro e w2 ⟨rfl, rfl⟩
      go_wp2_with fail
      go_ret
      exact ⟨rfl, hB⟩
    · have hl0 := Lib.hid (show ms.length = 0 by omega)
      rw [hl0.out] at hown
      rw [hl0.out]
      clear hlt HN
      go_wp2_with fail
      refine (C2.out _).mono ?_; rintro e w2 ⟨rfl, rfl⟩
      go_wp2_with fail
      go_ret
      exact ⟨rfl, hB⟩
  · obtain ⟨K, rfl⟩ := Int.eq_ofNat_of_zero_le (show 0 ≤ z by omega)
    rw [Int.toNat_natCast] at *
    clear hz
    go_enter Tryd.func29, Tryd.ntmps29
    go_wp2_with fail
    refine (C.out).mono ?_; rintro e w1 ⟨ad1, cap1, rfl, hown, hB⟩
    have hp := hown.pos
    obtain ⟨p1, p2, p3⟩ := hp
    unfold maxLen at p2
    by_cases hlt : K < ms.length
    · obtain ⟨g, rfl, _, _⟩ := p3 (by omega)
      have C2 := Lib.hid (fun c => rof_any (some ⟨g, 0, none⟩) K c (ms.take K) w1 (by rw [List.length_take]; omega) (by omega) (hown.rd.1.take K))
      rw [HT.out] at C2
      have hKc : K ≤ cap1 := by omega
      have hd : decide (K < ms.length) = true := decide_eq_true hlt
      clear p3
      go_wp2_with fail
      refine (C2.out _).mono ?_; rintro e w2 ⟨rfl, rfl⟩
      go_wp2_with fail
      go_ret
      exact ⟨rfl, hB⟩
    · have C2 := Lib.hid (fun c => rof_any ad1 ms.length c ms w1 rfl (by omega) hown.rd.1)
      have HE := Lib.hid (show ms.take K = ms from List.take_of_length_le (by omega))
      rw [HE.out] at HT
      rw [HT.out] at C2
      have hd : decide (K < ms.length) = false := decide_eq_false hlt
      clear p3 hlt
      go_wp2_with fail
      refine (C2.out _).mono ?_; rintro e w2 ⟨rfl, rfl⟩
      go_wp2_with fail
      go_ret
      exact ⟨rfl, hB⟩

def cntB (ms : List Int) (z : Int) : Nat := (ms.filter fun x => decide (x < z)).length
theorem cntB_le (ms : List Int) (z : Int) : cntB ms z ≤ ms.length := List.length_filter_le _ _
theorem cntB_hit {ms : List Int} {z x : Int} (h : x < z) : cntB (ms ++ [x]) z = cntB ms z + 1 := by simp [cntB, h]
theorem cntB_miss {ms : List Int} {z x : Int} (h : ¬ x < z) : cntB (ms ++ [x]) z = cntB ms z := by simp [cntB, h]
theorem cntB_mem (S : Nat) (z : Int) : cntB (memI S) z = belowN S z := by
  unfold cntB belowN memI
  rw [List.filter_map, List.length_map]
  rfl
theorem rbelow_any (S : Nat) (hS : S < 18446744073709551616) (z : Int) (w : World) :
    Calls Tryd.prog 31 #[.int .u64 S, .int .i64 z] w fun e w' => e = .returned (.int .i64 (belowN S z : Nat)) ∧ Below w.heap.size w w' := by
  have C := Lib.hid (rlist_any S hS w)
  have HC := Lib.hid (cntB_mem S z)
  have HN := (show (memI S).length ≤ 64 by rw [memI_len]; exact mem_le S)
  generalize memI S = ms at *
  go_enter Tryd.func31, Tryd.ntmps31
  go_wp2_with fail
  refine (C.out).mono ?_; rintro e w1 ⟨ad1, cap1, rfl, hown, hB⟩
  have HR := Lib.hid hown.rd.1
  obtain ⟨n, hn⟩ : ∃ n, Hid (ms.length = n) := ⟨_, Lib.hid rfl⟩
  rw [hn.out] at HN hown
  rw [hn.out]
  go_wp2_with fail
  go_loop [5, 7] (fun c i => ∃ k q : Nat, k ≤ n ∧ i = .int .i64 k ∧ c = .int .i64 q ∧ Hid (q = cntB (ms.take k) z) ∧ q ≤ k) (fun _ i => n - (intOf i).toNat)
  case atStart => exact ⟨0, 0, Nat.zero_le _, rfl, rfl, Lib.hid (by simp [cntB]), Nat.le_refl _⟩
  case round =>
    obtain ⟨k, q, hk, rfl, rfl, hq, hqk⟩ := hrel
    by_cases hlt : k < n
    · obtain ⟨b, off, rfl, hc⟩ := HR.out.at (k := k) (by rw [hn.out]; exact hlt)
      have HS := Lib.hid (take_succ' (zs := ms) (k := k) (by rw [hn.out]; exact hlt))
      generalize ms.getD k 0 = x at *
      clear hown
      by_cases hx : x < z
      · have HH := Lib.hid (cntB_hit (ms := ms.take k) hx)
        go_wp2_with fail
        go_round
        case rel => exact ⟨k + 1, q + 1, by omega, by go_num, by go_num, Lib.hid (by rw [HS.out, HH.out, hq.out]), by omega⟩
        case measure => simp [intOf]; omega
      · have HH := Lib.hid (cntB_miss (ms := ms.take k) hx)
        go_wp2_with fail
        go_round
        case rel => exact ⟨k + 1, q, by omega, by go_num, rfl, Lib.hid (by rw [HS.out, HH.out, hq.out]), by omega⟩
        case measure => simp [intOf]; omega
    · obtain rfl : k = n := by omega
      go_wp2_with fail
      go_ret
      exact ⟨ret_int (by rw [hq.out, List.take_of_length_le (by rw [hn.out]; exact Nat.le_refl _), HC.out]), hB⟩

/-! Whether two lists are the same: only where they are. -/
theorem same_any (ad bd : Option Addr) (len ca cb : Nat) (zs : List Int) (w : World) (hlen : zs.length = len) (hm : len ≤ 9223372036854775807) (hr : Rd w ad zs) (hs : Rd w bd zs) :
    Calls Tryd.prog 24 #[.slice ad len ca, .slice bd len cb] w fun e w' => e = .returned (.bool true) ∧ Below w.heap.size w w' := by
  have HL := Lib.hid hlen
  have HR := Lib.hid hr
  have HS := Lib.hid hs
  have ht : (len != len) = false := by simp
  clear hlen hr hs
  go_enter Tryd.func24, Tryd.ntmps24
  go_wp2_with fail
  go_loopw [13] (fun i wr => ∃ k : Nat, k ≤ len ∧ i = .int .i64 k ∧ Below w.heap.size w wr) (fun i _ => len - (intOf i).toNat)
  case atStart => exact ⟨0, Nat.zero_le _, rfl, Below.refl _ _⟩
  case round =>
    obtain ⟨k, hk, rfl, hB⟩ := hrel
    by_cases hlt : k < len
    · obtain ⟨b, off, rfl, hc⟩ := (HR.out.below hB).at (k := k) (by rw [HL.out]; exact hlt)
      obtain ⟨b2, off2, rfl, hc2⟩ := (HS.out.below hB).at (k := k) (by rw [HL.out]; exact hlt)
      generalize zs.getD k 0 = x at *
      have hxx : (x != x) = false := by simp
      go_wp2_with fail
      go_quiet (fail)
      go_wp2_with fail
      go_roundw
      case rel => exact ⟨k + 1, by omega, by go_num, Own.below_drewN hB _⟩
      case measure => simp [intOf]; omega
    · obtain rfl : k = len := by omega
      go_wp2_with fail
      go_ret
      exact ⟨rfl, hB⟩

theorem Rd.append {W w1 : World} {v : Value} {tmp : Obj} {ad : Option Addr} {zs : List Int} (h : Rd W ad zs) (hgrow : (W.alloc tmp).grownBy w1 v.ownBlock) (hne : ∀ b off, ad = some ⟨b, off, none⟩ → some b ≠ v.ownBlock) : Rd w1 ad zs := by
  rcases h with h | ⟨b, off, e, hc⟩
  · exact .inl h
  · exact .inr ⟨b, off, e, fun i hi => Own.cell_append hgrow (hc i hi) (hne _ _ e)⟩
def keepI (zs ms : List Int) : List Int := ms.filter fun z => !decide (z ∈ zs)
theorem keepI_hit {zs ms : List Int} {x : Int} (h : decide (x ∈ zs) = false) : keepI zs (ms ++ [x]) = keepI zs ms ++ [x] := by
  unfold keepI; rw [List.filter_append]; simp only [List.filter_cons, h]; simp
theorem keepI_miss {zs ms : List Int} {x : Int} (h : decide (x ∈ zs) = true) : keepI zs (ms ++ [x]) = keepI zs ms := by
  unfold keepI; rw [List.filter_append]; simp only [List.filter_cons, h]; simp
theorem keepI_len (zs ms : List Int) : (keepI zs ms).length ≤ ms.length := List.length_filter_le _ _
theorem rwithout_any (S : Nat) (hS : S < 18446744073709551616) (ad : Option Addr) (len cap : Nat) (zs : List Int) (w : World) (hlen : zs.length = len) (hm : len ≤ 9223372036854775807) (hr : Rd w ad zs) :
    Calls Tryd.prog 20 #[.int .u64 S, .slice ad len cap] w fun e w' => e = .returned (.int .u64 (withoutN S zs)) ∧ Below w.heap.size w w' := by
  obtain ⟨i0, hi, hz0, hz1, hz2⟩ := info_parts infoInt
  have C := Lib.hid (rlist_any S hS (w.alloc (.cells #[] 3)))
  have HW := Lib.hid (ofL_filter S zs)
  have HN := (show (memI S).length ≤ 64 by rw [memI_len]; exact mem_le S)
  have CI := Lib.hid (fun x c W (h : Rd W ad zs) => in_any ad len c zs x W hlen hm h)
  have HR := Lib.hid hr
  generalize memI S = ms at *
  clear hlen hr
  go_enter Tryd.func20, Tryd.ntmps20
  go_wp2_with fail
  refine (C.out).mono ?_; rintro e w1 ⟨ad1, cap1, rfl, hown, hB1⟩
  obtain ⟨n, hn⟩ : ∃ n, Hid (ms.length = n) := ⟨_, Lib.hid rfl⟩
  have hp := hown.pos
  have HR1 := Lib.hid hown.rd.1
  rw [hn.out] at hp hown HN
  rw [hn.out]
  have hsz1 := hB1.size
  rw [World.size_alloc] at hsz1
  have hB : Below w.heap.size w w1 := ((Below.refl _ _).alloc (Nat.le_refl _) _).trans (hB1.mono (by simp))
  have HK := Lib.hid (show OwnL w1 w.heap.size (.slice (some ⟨w.heap.size, 0, none⟩) 0 0) [] from
    World.ownsRow.kept (w := w.alloc (.cells #[] 3)) (World.ownsRow_lit (size := 1) w #[] 0 (Nat.le_refl _) (by unfold maxLen; omega) rfl)
      (row := Option.none) ⟨hB1.os, hB1.tape, hB1.output, hB1.size, fun k hk _ => hB1.block k hk⟩ (.inr (by simp [Value.ownBlock])))
  have hne0 : ∀ b off, ad1 = some ⟨b, off, none⟩ → some b ≠ (Value.slice (some ⟨w.heap.size, 0, none⟩) 0 0).ownBlock ∧ b < w1.heap.size ∨ n = 0 := by
    intro b off e
    by_cases h0 : n = 0
    · exact .inr h0
    · obtain ⟨g, eg, hg1, hg2⟩ := hp.2.2 (by omega)
      rw [e] at eg
      cases eg
      rw [World.size_alloc] at hg1
      refine .inl ⟨?_, hg2⟩
      simp only [Value.ownBlock, ne_eq, Option.some.injEq]
      omega
  have HNE := Lib.hid hne0
  clear hne0 hp hown hB1
  go_wp2_with fail
  go_loopw [5, 7] (fun v i wr => ∃ k : Nat, k ≤ n ∧ i = .int .i64 k ∧ OwnL wr w.heap.size v (keepI zs (ms.take k)) ∧ Below w.heap.size w wr ∧ Rd wr ad1 ms ∧ (∀ b off, ad1 = some ⟨b, off, none⟩ → some b ≠ v.ownBlock ∧ b < wr.heap.size ∨ n = 0)) (fun _ i _ => n - (intOf i).toNat)
  case atStart => exact ⟨0, Nat.zero_le _, rfl, HK.out, hB, HR1.out, HNE.out⟩
  case round =>
    obtain ⟨k, hk, rfl, hown, hBr, hRr, hNr⟩ := hrel
    have HRr := Lib.hid hRr
    have HNr := Lib.hid hNr
    have hsz := hBr.size
    clear hRr hNr
    by_cases hlt : k < n
    · obtain ⟨b, off, rfl, hc⟩ := HRr.out.at (k := k) (by rw [hn.out]; exact hlt)
      have HS := Lib.hid (take_succ' (zs := ms) (k := k) (by rw [hn.out]; exact hlt))
      generalize ms.getD k 0 = x at *
      have CX := Lib.hid (CI.out x)
      have HRl := Lib.hid (HR.out.below hBr)
      by_cases hx : decide (x ∈ zs) = true
      · have HM := Lib.hid (keepI_miss (zs := zs) (ms := ms.take k) hx)
        rw [hx] at CX
        clear hx
        go_wp2_with fail
        refine (CX.out _ _ HRl.out).mono ?_; rintro e w' ⟨rfl, rfl⟩
        go_wp2_with fail
        go_roundw
        case rel => exact ⟨k + 1, by omega, by go_num, by rw [HS.out, HM.out]; exact hown, hBr, HRr.out, HNr.out⟩
        case measure => simp [intOf]; omega
      · have hx' : decide (x ∈ zs) = false := by simpa using hx
        have HM := Lib.hid (keepI_hit (zs := zs) (ms := ms.take k) hx')
        have hkl := keepI_len zs (ms.take k)
        rw [List.length_take] at hkl
        rw [hx'] at CX
        clear hx hx'
        go_wp2_with fail
        refine (CX.out _ _ HRl.out).mono ?_; rintro e w' ⟨rfl, rfl⟩
        go_wp2_with (at_builtin; refine Own.wpList_append2 _ rfl _ _ 22 rfl w.heap.size 3 i0 (.int .i64 0) 1 8 Tryd.underlying22 hi hz0 hz1 hz2 rfl (by decide) _ _ _ rfl (World.ownsRow.alloc hown _) ⟨wr.heap.size, 0, none⟩ 1 1 [.int .i64 x] rfl rfl (cell_one_new _ _ _) (by simp [Value.oneCell']) (by unfold maxLen; omega) (by omega) (by simp; omega) ?_; intro v' w2 hown' hgrow _ hfar)
        have hB2 := hBr.trans (Own.below_append hown hsz hgrow)
        have hg := hgrow.size
        rw [World.size_alloc] at hg hfar
        have hb := (HNr.out b off rfl).resolve_right (by omega)
        have HR2 := HRr.out.append hgrow (fun b' off' e => by cases e; exact hb.1)
        go_roundw
        case rel =>
          refine ⟨k + 1, by omega, by go_num, by rw [HS.out, HM.out]; exact OwnL.snoc hown', hB2, HR2, fun b' off' e => .inl ?_⟩
          cases e
          refine ⟨fun e' => ?_, by omega⟩
          rcases hfar with h | h
          · exact hb.1 (e'.trans h)
          · have := h b e'.symm; omega
        case measure => simp [intOf]; omega
    · obtain rfl : k = n := by omega
      obtain ⟨ad2, cap2, rfl, _⟩ := Own.shape hown
      have HE := Lib.hid (show ms.take k = ms from List.take_of_length_le (by rw [hn.out]; exact Nat.le_refl _))
      rw [HE.out] at hown
      have hkl := keepI_len zs ms
      rw [hn.out] at hkl
      have C2 := Lib.hid (fun c => rof_any ad2 (keepI zs ms).length c (keepI zs ms) wr rfl (by omega) hown.rd.1)
      have HW2 := Lib.hid (show ofL (keepI zs ms) = withoutN S zs from HW.out)
      rw [HW2.out] at C2
      rw [HE.out]
      clear hown
      go_wp2_with fail
      refine (C2.out _).mono ?_; rintro e w2 ⟨rfl, rfl⟩
      go_wp2_with fail
      go_ret
      exact ⟨rfl, hBr⟩
end Go.Proofs.YtljkpcckfammmaaDoor.Nodes
