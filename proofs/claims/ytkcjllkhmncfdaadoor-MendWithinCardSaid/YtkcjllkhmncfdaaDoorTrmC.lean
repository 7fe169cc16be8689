/- Contracts of package trim (layer 24): Sort, Trim; the document's Trim. -/
import Derived.Test.YtkcjllkhmncfdaaDoorTrmB
import Derived.Test.YtkcjllkhmncfdaaDoorShelfM
import Derived.Sort.OwnSortedInts
import Derived.Lib.SliceRun
namespace Go.Proofs.YtkcjllkhmncfdaaDoor.Trm
open Go.ChangeShapes Go.WideShapes Go.ChangeAt Go.RowKit
open I64s (In64 Sl OwnL ListPost app_one app_all)
set_option linter.unusedVariables false
/-- The library's sort of a slice of the call's own. -/
theorem sort64_own (W : World) (base : Nat) (ad : Option Addr) (cap : Nat) (zs : List Int) (hown : OwnL W base (.slice ad zs.length cap) zs) (hm : zs.length ≤ 1000) (hbase : base ≤ W.heap.size) :
    Calls Tryd.prog 35 #[.slice ad zs.length cap] W fun e w' => e = .returned (.tuple #[]) ∧ OwnL w' base (.slice ad zs.length cap) (srt zs) ∧ Below base W w' := by
  by_cases h0 : zs.length = 0
  · obtain rfl := List.eq_nil_of_length_eq_zero h0
    refine Calls.mono (AnyM.slices_Sort_int_none Tryd.sort64 ad cap W) fun e w' h => ?_
    obtain ⟨rfl, rfl⟩ := h
    rw [show srt [] = [] from List.eq_nil_of_length_eq_zero (srt_len [])]
    exact ⟨rfl, hown, Below.refl _ _⟩
  · rcases hown.2 with ⟨hv, hz⟩ | ⟨g, cap', cur, hv, hb, hg, hn, hm', hcur, htake⟩
    · omega
    · simp only [Value.slice.injEq] at hv
      obtain ⟨rfl, -, rfl⟩ := hv
      have ht : cur.toList.take zs.length = zs.map (Value.int .i64) := by simpa using htake
      have hH := holds_of_blockI hg ht
      refine Calls.mono (AnyM.slices_Sort_int Tryd.sort64 g 0 cap zs W hH (Array.getElem?_eq_some_iff.1 hg).1 (by omega)) fun e w' h => ?_
      obtain ⟨rfl, n, os, rfl⟩ := h
      refine ⟨rfl, ?_, (Below.refl _ _).grown (grownBy_sortedI _) hbase (fun k e => by cases e; exact hb)⟩
      have := ownsRow_sortedI (n := n) (os := os) (ts := srt zs) (srt_len zs) hb hg hn hm' hcur
      unfold OwnL
      rw [srt_len]
      exact this
theorem clone64_any (ad : Option Addr) (cap : Nat) (zs : List Int) (w : World) (h : Sl w ad cap zs) (hm : zs.length ≤ 1000) :
    Calls Tryd.prog 21 #[.slice ad zs.length cap] w (ListPost zs w) := by
  cases ad with
  | none =>
    obtain rfl : cap = 0 := h.nil rfl
    obtain rfl : zs = [] := List.eq_nil_of_length_eq_zero (by have := h.le; omega)
    have hq : (binOp .eql 27 (.slice none 0 0) (.slice none 0 0)).run Tryd.prog w = .ok (.bool true) w := Lib.run_eql_slice_nil w _ _ none 0 0 0 0 Tryd.underlying27
    clear h hm
    go_enter Tryd.func21, Tryd.ntmps21
    go_wp2_with fail
    go_ret
    exact ⟨none, 0, rfl, I64s.OwnL.nil _ _, Below.refl _ _⟩
  | some a =>
    have hB0 : Below w.heap.size w (w.alloc (.cells #[] 2)) := (Below.refl _ _).alloc (Nat.le_refl _) _
    have HR := Lib.hid (h.below hB0).rd
    obtain ⟨n, hn⟩ : ∃ n, zs.length = n := ⟨_, rfl⟩
    have HN := Lib.hid hn
    rw [hn] at hm ⊢
    have hq : (binOp .eql 27 (.slice (some a) n cap) (.slice none 0 0)).run Tryd.prog w = .ok (.bool false) w := Lib.run_eql_slice_nil w _ _ (some a) n cap 0 0 Tryd.underlying27
    have HP : Hid (∀ l' ad' cap' w1, Hid (l' = [] ++ zs) → OwnL w1 w.heap.size (.slice ad' l'.length cap') l' → Below w.heap.size (w.alloc (.cells #[] 2)) w1 → ListPost zs w (.returned (.slice ad' l'.length cap')) w1) := Lib.hid (fun l' ad' cap' w1 e ho hB => by
      obtain rfl : l' = zs := by rw [e.out]; rfl
      exact ⟨ad', cap', rfl, ho, hB0.trans hB⟩)
    clear h hn
    go_enter Tryd.func21, Tryd.ntmps21
    go_wp2_with (at_builtin; refine app_all rfl _ _ rfl w.heap.size _ _ _ [] rfl (own_lit w) (some a) n cap zs rfl HN.out.symm HR.out (fun e => by cases e) (by have := HN.out; simp only [List.length_nil]; omega) (by simp) ?_; intro l' ad' cap' w1 hl' hown hB _)
    have HQ := Lib.hid (HP.out l' ad' cap' w1 hl' hown hB)
    clear hown hB hl' hB0 HP
    go_wp2_with fail
    go_ret
    exact HQ.out
theorem tsort_any (ad : Option Addr) (cap : Nat) (zs : List Int) (w : World) (h : Sl w ad cap zs) (hm : zs.length ≤ 1000) :
    Calls Tryd.prog 29 #[.slice ad zs.length cap] w (ListPost (srt zs) w) := by
  have C1 := Lib.hid (clone64_any ad cap zs w h hm)
  have C2 := Lib.hid (fun W ad cap (ho : OwnL W w.heap.size (.slice ad zs.length cap) zs) hb => sort64_own W w.heap.size ad cap zs ho hm hb)
  have HL := Lib.hid (srt_len zs)
  obtain ⟨n, hn⟩ : ∃ n, zs.length = n := ⟨_, rfl⟩
  have HQ : Hid (∀ ad1 cap1 w1 w2, OwnL w2 w.heap.size (.slice ad1 n cap1) (srt zs) → Below w.heap.size w w1 → Below w.heap.size w1 w2 → ListPost (srt zs) w (.returned (.slice ad1 n cap1)) w2) := Lib.hid (fun ad1 cap1 w1 w2 ho h1 h2 => by
    rw [← hn, ← HL.out] at ho ⊢
    exact ⟨ad1, cap1, rfl, ho, h1.trans h2⟩)
  unfold ListPost at C1
  rw [hn] at C1 C2 ⊢
  clear hn h
  go_enter Tryd.func29, Tryd.ntmps29
  go_wp2_with fail
  refine (C1.out).mono ?_; rintro e w1 ⟨ad1, cap1, rfl, hown1, hB1⟩
  go_wp2_with fail
  refine (C2.out w1 ad1 cap1 hown1 hB1.size).mono ?_; rintro e w2 ⟨rfl, hown2, hB2⟩
  have HP := Lib.hid (HQ.out ad1 cap1 w1 w2 hown2 hB1 hB2)
  clear hown1 hown2 hB1 hB2 C1 C2 HQ
  go_wp2_with fail
  go_ret
  exact HP.out
/-- What a call leaves that hands back a part of a list of its own. -/
def PartPost (zs : List Int) (w : World) (e : Ending) (w' : World) : Prop :=
  ∃ ad cap, e = .returned (.slice ad zs.length cap) ∧ Sl w' ad cap zs ∧ Below w.heap.size w w'
theorem ttrim_any (f : Int) (ad : Option Addr) (cap : Nat) (zs : List Int) (w : World) (h : Sl w ad cap zs) (hm : zs.length ≤ 1000) :
    Calls Tryd.prog 24 #[.int .i64 f, .slice ad zs.length cap] w (PartPost (trm f zs) w) := by
  have C1 := Lib.hid (fun W => fault_nat zs.length f (by omega) W)
  have C2 := Lib.hid (tsort_any ad cap zs w h hm)
  have HL := Lib.hid (srt_len zs)
  have HF := fa_bd zs.length f
  have HT := Lib.hid (trm_len f zs)
  obtain ⟨n, hn⟩ : ∃ n, zs.length = n := ⟨_, rfl⟩
  obtain ⟨t, ht⟩ : ∃ t, fa n f = t := ⟨_, rfl⟩
  have HE : Hid (trm f zs = ((srt zs).drop t).take (n - 2 * t)) := Lib.hid (by unfold trm; rw [hn, ht])
  unfold ListPost at C2
  rw [HL.out] at C2
  rw [hn, ht] at C1 HF HT
  rw [hn] at C2 HL hm ⊢
  clear h ht hn
  rcases HF with ⟨rfl, rfl⟩ | hF
  · go_enter Tryd.func24, Tryd.ntmps24
    go_wp2_with fail
    refine (C1.out _).mono ?_; rintro e w' ⟨rfl, rfl⟩
    go_wp2_with fail
    refine (C2.out).mono ?_; rintro e w1 ⟨ad1, cap1, rfl, hown1, hB1⟩
    have HP : Hid (PartPost (trm f zs) w (.returned (.slice ad1 0 cap1)) w1) := Lib.hid (by
      have e0 : srt zs = [] := List.eq_nil_of_length_eq_zero HL.out
      have e1 : trm f zs = [] := List.eq_nil_of_length_eq_zero (by rw [HT.out])
      rw [e1]
      rw [e0] at hown1
      exact ⟨ad1, cap1, rfl, hown1.sl, hB1⟩)
    clear hown1 hB1 C1 C2 HE HL HT
    go_wp2_with fail
    all_goals (go_ret; exact HP.out)
  · have k0 : (0 : Int) ≤ (n : Int) - (t : Int) := by omega
    have k1 : (t : Int) ≤ (n : Int) - (t : Int) := by omega
    go_enter Tryd.func24, Tryd.ntmps24
    go_wp2_with fail
    refine (C1.out _).mono ?_; rintro e w' ⟨rfl, rfl⟩
    go_wp2_with fail
    refine (C2.out).mono ?_; rintro e w1 ⟨ad1, cap1, rfl, hown1, hB1⟩
    have hS := hown1.sl
    obtain ⟨p1, p2, p3⟩ := hown1.pos
    unfold maxLen at p2
    rw [HL.out] at p1
    obtain ⟨g, rfl, -⟩ := p3 (by omega)
    have HP : Hid (∀ len', len' = n - 2 * t → PartPost (trm f zs) w (.returned (.slice (some ⟨g, t, none⟩) len' (cap1 - t))) w1) := Lib.hid (fun len' el => by
      rw [el, ← HT.out]
      refine ⟨_, _, rfl, ⟨?_, ?_, ?_, fun e => by cases e⟩, hB1⟩
      · rw [HE.out]
        have := (I64s.Rd.drop hS.rd t).take (n - 2 * t)
        rwa [Nat.zero_add] at this
      · rw [HT.out]; omega
      · omega)
    have k2 : (n : Int) - (t : Int) ≤ (cap1 : Int) := by omega
    have k3 : ¬ cap1 = t := by omega
    have k4 : t ≤ n - t := by omega
    clear hown1 hB1 C1 C2 HE HL HT hS
    go_wp2_with fail
    go_ret
    exact HP.out _ (by omega)
end Go.Proofs.YtkcjllkhmncfdaaDoor.Trm
