/- Contracts of package key (layer 6): Twice and Sort. -/
import Derived.Test.YtpfnjippdjhfgaaDoorKeyM
import Derived.Test.YtpfnjippdjhfgaaDoorKeyF
import Derived.Test.YtpfnjippdjhfgaaDoorShelfG
namespace Go.Proofs.YtpfnjippdjhfgaaDoor.Key
open Go.ChangeShapes Go.WideShapes Go.ChangeAt Go.RowKit Go.Sort
set_option linter.unusedVariables false
theorem grown_below {w w' : World} {n : Nat} {row : Option Nat} (h : w.grownBy w' row) (hn : n ≤ w.heap.size) (hr : ∀ k, row = some k → n ≤ k) : Below n w w' :=
  ⟨h.os, h.tape, h.output, h.size, fun k hk => h.block k (by omega) (fun e => by have := hr k e.symm; omega)⟩
theorem drop_cons {l : List Ky} {k : Nat} (h : k < l.length) : l.drop k = l.getD k default :: l.drop (k + 1) := by
  rw [List.drop_eq_getElem_cons h]; simp [List.getD, h]
theorem set3 {w : World} {g : Nat} {v0 v1 v2 u0 u1 u2 : Value} (h0 : w.cell? ⟨g, 0, none⟩ = some v0) (h1 : w.cell? ⟨g, 1, none⟩ = some v1) (h2 : w.cell? ⟨g, 2, none⟩ = some v2) :
    (((w.setCell ⟨g, 0, none⟩ u0).setCell ⟨g, 1, none⟩ u1).setCell ⟨g, 2, none⟩ u2).cell? ⟨g, 0, none⟩ = some u0 ∧
    (((w.setCell ⟨g, 0, none⟩ u0).setCell ⟨g, 1, none⟩ u1).setCell ⟨g, 2, none⟩ u2).cell? ⟨g, 1, none⟩ = some u1 ∧
    (((w.setCell ⟨g, 0, none⟩ u0).setCell ⟨g, 1, none⟩ u1).setCell ⟨g, 2, none⟩ u2).cell? ⟨g, 2, none⟩ = some u2 := by
  have n01 : (⟨g, 0, none⟩ : Addr) ≠ ⟨g, 1, none⟩ := by simp
  have n02 : (⟨g, 0, none⟩ : Addr) ≠ ⟨g, 2, none⟩ := by simp
  have n12 : (⟨g, 1, none⟩ : Addr) ≠ ⟨g, 2, none⟩ := by simp
  refine ⟨?_, ?_, ?_⟩
  · rw [World.cell?_setCell_other (h := Ne.symm n02), World.cell?_setCell_other (h := Ne.symm n01), World.cell?_setCell_same (h := h0)]
  · rw [World.cell?_setCell_other (h := Ne.symm n12), World.cell?_setCell_same (h := by rw [World.cell?_setCell_other (h := n01)]; exact h1)]
  · rw [World.cell?_setCell_same (h := by rw [World.cell?_setCell_other (h := n12), World.cell?_setCell_other (h := n02)]; exact h2)]
theorem twice_any (ad : Option Addr) (len cap : Nat) (l : List Ky) (w : World) (hlen : l.length = len) (hm : len < 9223372036854775807) (hr : RdK w ad l) (hok : ∀ y ∈ l, ok y) :
    Calls Tryd.prog 21 #[.slice ad len cap] w fun e w' => e = .returned (.tuple #[kval (twoK [] l).1, .bool (twoK [] l).2]) ∧ Below w.heap.size w w' := by
  have HL := Lib.hid hlen
  have HR := Lib.hid hr
  have HO := Lib.hid hok
  have CS : Hid (∀ W, Calls Tryd.prog 30 #[] W fun e w' => ∃ bv b, e = .returned (.func (.func 38) #[] #[.pointer (some ⟨bv, 0, none⟩)]) ∧ Seen w' bv b [] ∧ W.heap.size ≤ bv ∧ W.heap.size ≤ b ∧ Below W.heap.size W w') := Lib.hid seeing_any
  have CC : Hid (∀ x bv b l W, ok x → l.length < 9223372036854775807 → Seen W bv b l → Calls Tryd.prog 38 #[kval x, .pointer (some ⟨bv, 0, none⟩)] W fun e w' => e = .returned (.bool (inK l x)) ∧ Seen w' bv b (l ++ [x]) ∧ W.grownBy w' (some b)) := Lib.hid (fun x bv b l W h1 h2 h3 => seen_any x h1 bv b l h2 W h3)
  generalize hp : twoK [] l = p at *
  have HP := Lib.hid hp
  clear hlen hr hok hp
  obtain ⟨w1, hw1⟩ : ∃ w1, Hid (w1 = w.alloc (.cells #[.int .i64 0, .int .i64 0, .int .u32 0] 24)) := ⟨_, Lib.hid rfl⟩
  have HB1 : Hid (Below w.heap.size w w1) := Lib.hid (by rw [hw1.out]; exact box_below _ _)
  have HS1 : Hid (w1.heap.size = w.heap.size + 1) := Lib.hid (by rw [hw1.out, World.size_alloc])
  have HZ : Hid (∀ W, Below w1.heap.size w1 W → ∀ i u, ([.int .i64 0, .int .i64 0, .int .u32 0] : List Value)[i]? = some u → W.cell? ⟨w.heap.size, i, none⟩ = some u ∧ W.frozen? ⟨w.heap.size, i, none⟩ = false) := Lib.hid (fun W hW i u hu => by
    have hb : W.heap[w.heap.size]? = some (.cells #[.int .i64 0, .int .i64 0, .int .u32 0] 24 (0, 0)) := by
      rw [hW.block _ (by rw [hw1.out, World.size_alloc]; omega), hw1.out]
      exact (MapKept.heap_alloc w _).1
    refine ⟨?_, frozen_of_row W _ i _ _ hb⟩
    rw [cell_of_row W _ i _ _ _ hb]
    simpa using hu)
  go_enter Tryd.func21, Tryd.ntmps21
  go_wp2_with fail
  refine (CS.out _).mono ?_; rintro e w2 ⟨bv, b, rfl, hS, hbv, hb, hB2⟩
  rw [← hw1.out] at hbv hb hB2
  go_wp2_with fail
  go_loopw [10] (fun i wr => ∃ k : Nat, k ≤ len ∧ i = .int .i64 k ∧ Hid (Seen wr bv b (l.take k)) ∧ Hid (Below w1.heap.size w1 wr) ∧ Hid (twoK (l.take k) (l.drop k) = p)) (fun i _ => len - (intOf i).toNat)
  case atStart => exact ⟨0, Nat.zero_le _, rfl, Lib.hid hS, Lib.hid hB2, Lib.hid (by rw [List.take_zero, List.drop_zero]; exact HP.out)⟩
  case round =>
    obtain ⟨k, hk, rfl, hS, hB, hT⟩ := hrel
    have HBw : Hid (Below w.heap.size w wr) := Lib.hid (HB1.out.trans (hB.out.mono HB1.out.size))
    by_cases hlt : k < len
    · obtain ⟨b3, off, rfl, hbw, hc⟩ := HR.out.at_ (i := k) (by rw [HL.out]; exact hlt)
      have HOx := Lib.hid (HO.out (l.getD k default) (by simp [List.getD, show k < l.length by rw [HL.out]; exact hlt]))
      have HTS := Lib.hid (take_succ' (l := l) (k := k) (by rw [HL.out]; exact hlt))
      have HD := Lib.hid (drop_cons (l := l) (k := k) (by rw [HL.out]; exact hlt))
      have hc' := hc.below HBw.out hbw
      have HLT : Hid ((l.take k).length < 9223372036854775807) := Lib.hid (by rw [List.length_take, HL.out]; omega)
      clear hc
      generalize l.getD k default = y at *
      obtain ⟨a, b', c⟩ := y
      obtain ⟨c0, c1, c2⟩ := at3 hc'
      have CX : Hid (Calls Tryd.prog 38 #[.agg #[.int .i64 a, .int .i64 b', .int .u32 c], .pointer (some ⟨bv, 0, none⟩)] (wr.alloc (.cells #[.int .i64 a, .int .i64 b', .int .u32 c] 24)) fun e w' => e = .returned (.bool (inK (l.take k) (a, b', c))) ∧ Hid (Seen w' bv b (l.take (k + 1))) ∧ (wr.alloc (.cells #[.int .i64 a, .int .i64 b', .int .u32 c] 24)).grownBy w' (some b)) :=
        Lib.hid ((CC.out (a, b', c) bv b (l.take k) _ HOx.out HLT.out (hS.out.below (box_below wr _))).mono fun e w' h => ⟨h.1, Lib.hid (by rw [HTS.out]; exact h.2.1), h.2.2⟩)
      have hbl : b < wr.heap.size := by obtain ⟨-, -, -, g, h, -⟩ := hS.out; exact h.lt
      have HG : Hid (∀ W, (wr.alloc (.cells #[.int .i64 a, .int .i64 b', .int .u32 c] 24)).grownBy W (some b) → Below w1.heap.size w1 W ∧ W.cell? ⟨wr.heap.size, 0, none⟩ = some (.int .i64 a) ∧ W.cell? ⟨wr.heap.size, 1, none⟩ = some (.int .i64 b') ∧ W.cell? ⟨wr.heap.size, 2, none⟩ = some (.int .u32 c)) := Lib.hid (fun W hW => by
        have h1 : Below w1.heap.size w1 (wr.alloc (.cells #[.int .i64 a, .int .i64 b', .int .u32 c] 24)) := hB.out.trans ((box_below wr _).mono hB.out.size)
        refine ⟨h1.trans (grown_below hW h1.size (fun k hk => by cases hk; exact hb)), ?_⟩
        have h2 := at3 (Rw.At.box (enc := enc) (e := 24) wr (a, b', c) #[.int .i64 a, .int .i64 b', .int .u32 c] rfl)
        simp only [Nat.zero_add] at h2
        exact ⟨hW.cell h2.1 (by simp; omega), hW.cell h2.2.1 (by simp; omega), hW.cell h2.2.2 (by simp; omega)⟩)
      simp only at c0 c1 c2
      clear hc'
      cases hin : inK (l.take k) (a, b', c) with
      | true =>
        rw [hin] at CX
        have HPv : Hid (p = ((a, b', c), true)) := Lib.hid (by rw [← hT.out, HD.out, twoK, hin, if_pos rfl])
        clear hin HTS HD hT hS HR HP
        go_wp2_with fail
        refine (CX.out).mono ?_; rintro e w7 ⟨rfl, -, hg⟩
        obtain ⟨hB7, k0, k1, k2⟩ := HG.out w7 hg
        have z0 := HZ.out w7 hB7 0 _ rfl
        have z1 := HZ.out w7 hB7 1 _ rfl
        have z2 := HZ.out w7 hB7 2 _ rfl
        obtain ⟨z0, f0⟩ := z0
        obtain ⟨z1, f1⟩ := z1
        obtain ⟨z2, f2⟩ := z2
        clear hg
        go_wp2_with fail
        rw [HPv.out]
        obtain ⟨r0, r1, r2⟩ := set3 (u0 := .int .i64 a) (u1 := .int .i64 b') (u2 := .int .u32 c) z0 z1 z2
        refine bodyPost_ret (v := .tuple #[kval (a, b', c), .bool true]) (by simp [results, Tryd.results21, go_sem, r0, r1, r2]; rfl) rfl ?_
        have hB8 := HB1.out.trans (hB7.mono HB1.out.size)
        exact ⟨rfl, ((hB8.setCell (Nat.le_refl _) _).setCell (Nat.le_refl _) _).setCell (Nat.le_refl _) _⟩
      | false =>
        rw [hin] at CX
        have HPv : Hid (twoK (l.take (k + 1)) (l.drop (k + 1)) = p) := Lib.hid (by
          have := hT.out
          rw [HD.out, twoK, hin] at this
          simp only [Bool.false_eq_true, if_false] at this
          rw [HTS.out]; exact this)
        clear hin HTS HD hT hS HP
        go_wp2_with fail
        refine (CX.out).mono ?_; rintro e w7 ⟨rfl, hS7, hg⟩
        have HB7 := Lib.hid (HG.out w7 hg).1
        clear hg HG
        go_wp2_with fail
        go_roundw
        case rel => exact ⟨k + 1, by omega, by go_num, hS7, HB7, HPv⟩
        case measure => simp [intOf]; omega
    · obtain rfl : k = len := by omega
      have HPv : Hid (p = ((0, 0, 0), false)) := Lib.hid (by
        rw [← hT.out, List.drop_of_length_le (by rw [HL.out]; exact Nat.le_refl _)]; rfl)
      obtain ⟨z0, f0⟩ := HZ.out wr hB.out 0 _ rfl
      obtain ⟨z1, f1⟩ := HZ.out wr hB.out 1 _ rfl
      obtain ⟨z2, f2⟩ := HZ.out wr hB.out 2 _ rfl
      clear hS hT
      go_wp2_with fail
      rw [HPv.out]
      obtain ⟨r0, r1, r2⟩ := set3 (u0 := .int .i64 0) (u1 := .int .i64 0) (u2 := .int .u32 0) z0 z1 z2
      refine bodyPost_ret (v := .tuple #[kval (0, 0, 0), .bool false]) (by simp [results, Tryd.results21, go_sem, r0, r1, r2]; rfl) rfl ?_
      have hB8 := HBw.out
      exact ⟨rfl, ((hB8.setCell (Nat.le_refl _) _).setCell (Nat.le_refl _) _).setCell (Nat.le_refl _) _⟩
theorem Seen.kept {w w' : World} {bv b : Nat} {l : List Ky} {row : Option Nat} (h : Seen w bv b l) (hg : w.grownBy w' row) (h1 : some bv ≠ row) (h2 : some b ≠ row) : Seen w' bv b l := by
  obtain ⟨k1, k2, k3, g, k4, k5⟩ := h
  exact ⟨hg.cell k1 h1, k2, Nat.lt_of_lt_of_le k3 hg.size, g, k4.kept hg h2, k5⟩
theorem swoK : SWO (ltOf cmpK) where
  irrefl x := by unfold ltOf; rw [cmp_lt]; exact lt_irrefl x
  trans x y z h1 h2 := by unfold ltOf at *; rw [cmp_lt] at *; exact lt_trans h1 h2
  ntrans x y z h1 h2 := by unfold ltOf at *; rw [cmp_lt] at *; exact lt_ntrans h1 h2
theorem sortfunc_any (ad : Option Addr) (cap base : Nat) (l : List Ky) (w : World) (h : OwnK w base (.slice ad l.length cap) l) (hl : l.length ≤ 1000000) :
    Calls Tryd.prog 31 #[.slice ad l.length cap, .func (.func 10) #[] #[]] w fun e w' => e = .returned (.tuple #[]) ∧
      ∃ ts : List Ky, ts.Perm l ∧ (∀ i j, i < j → j < ts.length → ltK (ts.getD j default) (ts.getD i default) = false) ∧ OwnK w' base (.slice ad l.length cap) ts ∧ w.grownBy w' (Value.slice ad l.length cap).ownBlock := by
  by_cases h0 : l.length = 0
  · have hl0 : l = [] := List.eq_nil_of_length_eq_zero h0
    subst hl0
    refine (AnyF.slices_SortFunc_none { Tryd.sortK with } ad cap (.func (.func 10) #[] #[]) w).mono ?_
    rintro e w' ⟨he, rfl⟩
    exact ⟨he, [], List.Perm.refl _, fun i j _ hj => by simp at hj, h, World.grownBy.refl _ _⟩
  · obtain ⟨p1, p2, p3, -⟩ := h.pos
    obtain ⟨g, rfl, hg1, hg2⟩ := p3 (by omega)
    have eg : ∀ args w, (callFunc 10 args).run Tryd.prog w = .ok (.enter 10 args) w := enters_of Tryd.func10 (by kernel_rfl) rfl
    have hcmp : CmpLays Tryd.prog 10 #[] enc 3 cmpK g 0 l.toArray.size w := fun m os dk hs x y => compare_any x y _
    have hc := AnyQ.slices_SortFunc Tryd.sortK 3 Tryd.isAgg24 Tryd.sizeOf24 enc enc_len enc_one cmpK swoK 10 #[] g 0 cap l.toArray w eg hcmp (h.holds enc_len) hg2 (by simp; omega)
    rw [List.size_toArray] at hc
    refine hc.mono ?_
    rintro e w' ⟨he, d', n, os, hp, hs, rfl⟩
    have hp1 : d'.size = l.length := hp.1.trans (by simp)
    have hp3 := hp.2.2
    have hpe : d'.toList.Perm l := by
      have e1 : (d'.extract 0 l.length).toList = d'.toList := by rw [Array.toList_extract, List.extract_eq_take_drop, List.drop_zero, Nat.sub_zero, List.take_of_length_le (by rw [Array.length_toList]; omega)]
      have e2 : (l.toArray.extract 0 l.length).toList = l := by rw [Array.toList_extract, List.extract_eq_take_drop, List.drop_zero, Nat.sub_zero, List.take_of_length_le (by simp)]
      rw [e1, e2] at hp3
      exact hp3
    have hso := Rw.OwnS.sorted (n := n) (os := os) enc_len h (ts := d'.toList) (by simpa using hp1)
    rw [Array.toArray_toList] at hso
    refine ⟨he, d'.toList, hpe, fun i j hij hj => ?_, hso, Rw.grownBy_sorted d'⟩
    rw [Array.length_toList] at hj
    have := hs i j (Nat.zero_le _) hij (by omega)
    unfold ltOf at this
    rw [cmp_lt] at this
    have ei : d'[i]! = d'.toList.getD i default := by simp [List.getD, getElem!_pos, show i < d'.size by omega]
    have ej : d'[j]! = d'.toList.getD j default := by simp [List.getD, getElem!_pos, hj]
    rw [ei, ej] at this
    exact this
end Go.Proofs.YtpfnjippdjhfgaaDoor.Key
