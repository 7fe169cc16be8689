/- Contracts of package cut (layer 18): Cuts, First. -/
import Derived.Test.YtbgigimapogkcaaDoorCutF
import Derived.Test.YtbgigimapogkcaaDoorReaC
namespace Go.Proofs.YtbgigimapogkcaaDoor.Cut
open Go.RowKit Go.Shelf Go.ChangeShapes Go.WideShapes Go.ChangeAt
open Nodes (Tabs mem allN firstN andNotN bitN ofL leastN ret_int)
open Grf (Pr)
open Rea (GP wholeB wholeP)
open Nodes (boxed_kept)
set_option linter.unusedVariables false
set_option linter.unusedSimpArgs false
set_option maxRecDepth 100000
attribute [local go_sem] Oper.semAt_some
theorem cuts_any (p : Option Addr) (n : Nat) (L : List Pr) (S : Nat) (hS : S < 18446744073709551616) (w : World) (h : GP w p n L) (hT : Tabs w) :
    Calls Tryd.prog 12 #[.pointer p, .int .u64 S] w fun e w' => e = .returned (.bool (!wholeB n S L)) ∧ Below w.heap.size w w' := by
  have C := Lib.hid (Rea.whole_any p n L S hS w h hT)
  generalize wholeB n S L = b at *
  clear h hT
  go_enter Tryd.func12, Tryd.ntmps12
  go_wp2_with fail
  refine (C.out).mono ?_; rintro e w' ⟨rfl, hB⟩
  go_wp2_with fail
  go_ret
  exact ⟨rfl, hB⟩
/-- The first set that cuts. -/
noncomputable def firstO (n : Nat) (L : List Pr) (f : Int) : Option Nat := (upTo n (manyN n (min f 3))).find? fun s => !wholeB n s L
theorem find_none_upto {α : Type} {l : List α} {p : α → Bool} (h : ∀ j, j < l.length → ∀ x, l[j]? = some x → p x = false) : l.find? p = none := by
  rw [List.find?_eq_none]
  intro x hx hp
  obtain ⟨j, hj, e⟩ := List.getElem_of_mem hx
  have := h j hj x (by rw [List.getElem?_eq_getElem hj, e])
  rw [this] at hp
  cases hp
theorem find_at {α : Type} {p : α → Bool} : ∀ {l : List α} {i : Nat} {x : α}, (∀ j, j < i → ∀ y, l[j]? = some y → p y = false) → l[i]? = some x → p x = true → l.find? p = some x
  | [], i, x, _, h, _ => by simp at h
  | y :: l, 0, x, _, h, hp => by
    simp at h
    subst h
    exact List.find?_cons_of_pos hp
  | y :: l, i + 1, x, hb, h, hp => by
    rw [List.find?_cons_of_neg (by rw [hb 0 (by omega) y rfl]; simp)]
    exact find_at (i := i) (fun j hj z hz => hb (j + 1) (by omega) z (by simpa using hz)) (by simpa using h) hp
theorem first_leaves {w U : World} {D B : Nat} {s : Int} {b : Bool} {tmps : Array Value} (hK : U.heap[D]? = some (.deferred (some []))) (h1 : Boxed U (B + 1) 31 (.int .u64 s)) (h2 : Boxed U (B + 1 + 1) 4 (.bool b)) (hB : Below w.heap.size w U) (hD : B + 1 + 1 + 1 + 1 < D) (hw : w.heap.size = B)
    (hp1 : tmps.getD 4 undef = .pointer (some ⟨B + 1, 0, none⟩)) (hp2 : tmps.getD 5 undef = .pointer (some ⟨B + 1 + 1, 0, none⟩)) :
    ∃ v, (results Tryd.f10 tmps).run Tryd.prog (U.putObj D (.deferred none)) = .ok v (U.putObj D (.deferred none)) ∧ (Ending.returned v = .returned (.tuple #[.int .u64 s, .bool b]) ∧ Below w.heap.size w (U.putObj D (.deferred none))) := by
  have z1 := (boxed_kept h1 (grownBy_putObj' U D (.deferred none)) (fun r e => by cases e; exact ⟨_, hK, rfl⟩)).cell
  have z2 := (boxed_kept h2 (grownBy_putObj' U D (.deferred none)) (fun r e => by cases e; exact ⟨_, hK, rfl⟩)).cell
  refine ⟨.tuple #[.int .u64 s, .bool b], ?_, rfl, hB.trans (belowK_b (w := w) (Nat.le_refl _) U D _ _ (by omega) hK rfl rfl)⟩
  have hp1' : tmps[4]?.getD undef = .pointer (some ⟨B + 1, 0, none⟩) := by simpa using hp1
  have hp2' : tmps[5]?.getD undef = .pointer (some ⟨B + 1 + 1, 0, none⟩) := by simpa using hp2
  simp [results, Tryd.f10, go_sem, hp1', hp2', z1, z2]
set_option maxHeartbeats 4000000 in
theorem first_in (N : Nat) (hN : 5 ≤ N) (p : Option Addr) (n : Nat) (L : List Pr) (f : Int) (hf : -9223372036854775808 ≤ f) (w : World) (h : GP w p n L) (hT : Tabs w) :
    CallsIn Fence.wide N Tryd.prog 10 #[.pointer p, .int .i64 f] w fun e w' =>
      e = .returned (.tuple #[.int .u64 (((firstO n L f).getD 0 : Nat) : Int), .bool (firstO n L f).isSome]) ∧ Below w.heap.size w w' := by
  have h1 : 1 ≤ N := by omega
  have hn := h.le
  have HN := Lib.hid hn
  have CN := Lib.hid (fun W hB => Rea.gpn_any p n L W (h.below hB))
  have CE := Lib.hid (fun W => each_any (n : Int) (min f 3) (by omega) (by omega) W)
  rw [clamp_nat hn] at CE
  have HG := Lib.hid h
  have HT := Lib.hid hT
  clear h hT
  refine callsIn_of_wp_marks Tryd.func10 rfl trivial ?_ rfl
  simp only [Tryd.ntmps10, List.size_toArray, List.length_cons, List.length_nil, Nat.reduceAdd, Nat.reduceSub, Array.replicate_succ, Array.replicate_zero, List.push_toArray, List.append_toArray, List.nil_append, List.cons_append]
  gi_wp2_with (first
    | (refine ⟨trivial, ?_⟩; gi_at_call 26; refine (callsIn_wide.2 (CN.out _ ?_)).mono ?_; (focus exact ((((Below.refl _ _).alloc (Nat.le_refl _) _).alloc (by simp) _).alloc (by simp; omega) _)); rintro e w' ⟨rfl, rfl⟩)
    | (refine ⟨trivial, ?_⟩; gi_at_call 18; refine (callsIn_wide.2 (CE.out _)).mono ?_; rintro e w4 ⟨rfl, bM, bA, hB4⟩))
  obtain ⟨w3, hw3⟩ : ∃ w3, w3 = (((w.alloc (.cells #[.pointer p] 26)).alloc (.cells #[.int .u64 0] 31)).alloc (.cells #[.bool false] 4)) := ⟨_, rfl⟩
  have b0 : Boxed w3 w.heap.size 26 (.pointer p) := by rw [hw3]; exact ((Boxed.new w _ _).alloc _).alloc _
  have b1 : Boxed w3 (w.heap.size + 1) 31 (.int .u64 0) := by
    have := (Boxed.new (w.alloc (.cells #[.pointer p] 26)) 31 (.int .u64 0)).alloc (.cells #[.bool false] 4)
    rw [World.size_alloc, ← hw3] at this
    exact this
  have b2 : Boxed w3 (w.heap.size + 1 + 1) 4 (.bool false) := by
    have := (Boxed.new ((w.alloc (.cells #[.pointer p] 26)).alloc (.cells #[.int .u64 0] 31)) 4 (.bool false))
    rw [World.size_alloc, World.size_alloc, ← hw3] at this
    exact this
  have hB3 : Below w.heap.size w w3 := by rw [hw3]; exact ((((Below.refl _ _).alloc (Nat.le_refl _) _).alloc (by simp) _).alloc (by simp; omega) _)
  have hs3 : w3.heap.size = w.heap.size + 1 + 1 + 1 := by rw [hw3]; simp
  rw [← hw3] at bM bA hB4
  rw [hs3] at bM bA hB4
  have hs4 : w.heap.size + 1 + 1 + 1 + 1 < w4.heap.size := bA.lt
  have k0 : Boxed w4 w.heap.size 26 (.pointer p) := (hB4.block _ (by omega)).trans b0
  have k1 : Boxed w4 (w.heap.size + 1) 31 (.int .u64 0) := (hB4.block _ (by omega)).trans b1
  have k2 : Boxed w4 (w.heap.size + 1 + 1) 4 (.bool false) := (hB4.block _ (by omega)).trans b2
  have hBw4 : Below w.heap.size w w4 := hB3.trans (hB4.mono (by omega))
  clear b0 b1 b2 hB3 hB4 hw3 hs3 CN CE
  obtain ⟨M, hM⟩ : ∃ M, M = (min (min f 3) (n : Int) + 1).toNat := ⟨_, rfl⟩
  have hFO : firstO n L f = (upTo n M).find? fun s => !wholeB n s L := by rw [hM]; rfl
  have hlo : -9223372036854775808 ≤ min (min f 3) (n : Int) := by omega
  have hhi : min (min f 3) (n : Int) ≤ (n : Int) := by omega
  refine Rgb.wpIn_range (F := Fence.wide) rfl h1 (gf := 32) (lb := #[.pointer (some ⟨w.heap.size + 1 + 1 + 1, 0, none⟩), .pointer (some ⟨w.heap.size + 1 + 1 + 1 + 1, 0, none⟩)]) rfl trivial (enters_of Tryd.func32 (by kernel_rfl) rfl)
    (N := (upTo n M).length) (encs := encS (upTo n M)) (I := fun i U => (Boxed U w.heap.size 26 (.pointer p) ∧ Boxed U (w.heap.size + 1) 31 (.int .u64 0) ∧ Boxed U (w.heap.size + 1 + 1) 4 (.bool false) ∧ Boxed U (w.heap.size + 1 + 1 + 1) 3 (.int .i64 (min (min f 3) (n : Int))) ∧ Boxed U (w.heap.size + 1 + 1 + 1 + 1) 31 (.int .u64 (allN (n : Int) : Nat))) ∧ Below w.heap.size w U ∧ ∀ j, j < i → ∀ y, (upTo n M)[j]? = some y → (!wholeB n y L) = false)
    (Ix := fun c U => c = .ret ∧ (∃ s : Nat, firstO n L f = some s ∧ Boxed U (w.heap.size + 1) 31 (.int .u64 (s : Int)) ∧ Boxed U (w.heap.size + 1 + 1) 4 (.bool true)) ∧ Below w.heap.size w U) (fun _ => rfl)
    (fun i U U' hI hB => ⟨⟨(hB.block _ (by omega)).trans hI.1.1, (hB.block _ (by omega)).trans hI.1.2.1, (hB.block _ (by omega)).trans hI.1.2.2.1, (hB.block _ (by omega)).trans hI.1.2.2.2.1, (hB.block _ (by omega)).trans hI.1.2.2.2.2⟩, hI.2.1.trans (hB.mono (by omega)), hI.2.2⟩)
    (fun c U U' hI hB => ⟨hI.1, hI.2.1.elim fun s hs => ⟨s, hs.1, (hB.block _ (by omega)).trans hs.2.1, (hB.block _ (by omega)).trans hs.2.2⟩, hI.2.2.trans (hB.mono (by omega))⟩)
    ⟨⟨k0, k1, k2, bM, bA⟩, hBw4, fun j hj => by omega⟩
    (fun U hU h0 => by rw [hM]; exact each1_iter (N - 1) (by omega) n _ _ _ hn hhi hlo _ U (fun i U1 h => ⟨⟨h.1.2.2.2.1.cell, h.1.2.2.2.2.cell⟩, HT.out.below h.2.1⟩))
    (fun i _ => { tmps := #[.pointer p, .int .i64 f, .pointer (some ⟨w.heap.size, 0, none⟩), undef, .pointer (some ⟨w.heap.size + 1, 0, none⟩), .pointer (some ⟨w.heap.size + 1 + 1, 0, none⟩), .int .u64 (((upTo n M).getD i 0 : Nat) : Int), .pointer p, .int .i64 (n : Int), .int .i64 f, .int .i64 (min f 3),
      .func (.func 32) #[] #[.pointer (some ⟨w.heap.size + 1 + 1 + 1, 0, none⟩), .pointer (some ⟨w.heap.size + 1 + 1 + 1 + 1, 0, none⟩)], .int .u64 (((upTo n M).getD i 0 : Nat) : Int), undef, undef, undef, undef], defers := [] })
    (fun _ U => U) (fun i U => Below.refl _ U) ?assign ?body ?done ?stop
  case assign =>
    intro l2 i U K hK
    unfold encS
    generalize (upTo n M).getD i 0 = s at *
    gi_wp2
    exact hK
  case body =>
    intro l2 i U U2 hi hDl hlt2 hI1 hI2 hs2 hk2
    obtain ⟨⟨a0, a1, a2, a3, a4⟩, hBU, hno⟩ := hI2
    have hget : (upTo n M)[i]? = some ((upTo n M).getD i 0) := by simp [List.getD, hi]
    have hmem := mem_upTo.1 (List.mem_of_getElem? hget)
    have hs64 : (upTo n M).getD i 0 < 18446744073709551616 := by have := pow64 hn; have := e64; omega
    have CC := Lib.hid (cuts_any p n L _ hs64 U2 (HG.out.below hBU) (HT.out.below hBU))
    have HFI : Hid ((!wholeB n ((upTo n M).getD i 0) L) = true → firstO n L f = some ((upTo n M).getD i 0)) := Lib.hid (fun hc => by rw [hFO]; exact find_at hno hget hc)
    have HNO : Hid ((!wholeB n ((upTo n M).getD i 0) L) = false → ∀ j, j < i + 1 → ∀ y, (upTo n M)[j]? = some y → (!wholeB n y L) = false) := Lib.hid (fun hc j hj y hy => by
      by_cases hji : j = i
      · rw [hji, hget] at hy
        cases hy
        exact hc
      · exact hno j (by omega) y hy)
    have c0 := a0.cell
    have HA := Lib.hid (And.intro a0 (And.intro a1 (And.intro a2 (And.intro a3 a4))))
    have HBU := Lib.hid hBU
    clear a0 a1 a2 a3 a4 hBU hno hget hmem hs64 hI1 hs2 hk2 hi
    generalize (upTo n M).getD i 0 = s at *
    generalize wholeB n s L = b at *
    have HE : Hid (∀ w5, Below U2.heap.size U2 w5 → Boxed w5 w.heap.size 26 (.pointer p) ∧ Boxed w5 (w.heap.size + 1) 31 (.int .u64 0) ∧ Boxed w5 (w.heap.size + 1 + 1) 4 (.bool false) ∧ Boxed w5 (w.heap.size + 1 + 1 + 1) 3 (.int .i64 (min (min f 3) (n : Int))) ∧ Boxed w5 (w.heap.size + 1 + 1 + 1 + 1) 31 (.int .u64 (allN (n : Int) : Nat))) := Lib.hid (fun w5 hB =>
      ⟨(hB.block _ HA.out.1.lt).trans HA.out.1, (hB.block _ HA.out.2.1.lt).trans HA.out.2.1, (hB.block _ HA.out.2.2.1.lt).trans HA.out.2.2.1, (hB.block _ HA.out.2.2.2.1.lt).trans HA.out.2.2.2.1, (hB.block _ HA.out.2.2.2.2.lt).trans HA.out.2.2.2.2⟩)
    have hU2 : w4.heap.size < U2.heap.size ∨ True := .inr trivial
    cases b with
    | true =>
      gi_wp2_with (refine ⟨trivial, fun hh => absurd hh Bool.false_ne_true, ?_⟩; gi_at_call 12; refine (CallsIn.inRound l2 (callsIn_wide.2 CC.out)).mono ?_; rintro e w5 ⟨rfl, hB5⟩)
      exact ⟨⟨hB5.size, fun k _ hk => hB5.block k hk⟩, HE.out _ hB5, HBU.out.trans (hB5.mono HBU.out.size), HNO.out rfl⟩
    | false =>
      gi_wp2_with (refine ⟨trivial, fun hh => absurd hh Bool.false_ne_true, ?_⟩; gi_at_call 12; refine (CallsIn.inRound l2 (callsIn_wide.2 CC.out)).mono ?_; rintro e w5 ⟨rfl, hB5⟩; obtain ⟨y0, y1, y2, y3, y4⟩ := HE.out _ hB5; have d1 := y1.cell; have d2 := y2.cell; have e1 := y1.frozen; have e2 := y2.frozen)
      have hk5 : Rgb.KeepNew w4.heap.size U2 w5 := ⟨hB5.size, fun k _ hk => hB5.block k hk⟩
      refine ⟨hk5.trans ((Rgb.KeepNew.setCell w5 (p := ⟨w.heap.size + 1, 0, none⟩) (by show w.heap.size + 1 < w4.heap.size; omega) _).trans (Rgb.KeepNew.setCell _ (p := ⟨w.heap.size + 1 + 1, 0, none⟩) (by show w.heap.size + 1 + 1 < w4.heap.size; omega) _)), rfl,
        ⟨s, HFI.out rfl, (Boxed.set _ y1).other (by omega) _, Boxed.set _ (y2.other (by omega) _)⟩, ?_⟩
      exact ((HBU.out.trans (hB5.mono HBU.out.size)).setCell (p := ⟨w.heap.size + 1, 0, none⟩) (by show w.heap.size ≤ w.heap.size + 1; omega) _).setCell (p := ⟨w.heap.size + 1 + 1, 0, none⟩) (by show w.heap.size ≤ w.heap.size + 1 + 1; omega) _
  case done =>
    intro U hlt2 hI hK
    obtain ⟨⟨-, a1, a2, -, -⟩, hBU, hno⟩ := hI
    have hnone : firstO n L f = none := by rw [hFO]; exact find_none_upto fun j hj x hx => hno j hj x hx
    have d1 := a1.cell
    have d2 := a2.cell
    have e1 := a1.frozen
    have e2 := a2.frozen
    have HN0 := Lib.hid hnone
    have HX : Hid (∀ V, V = (U.setCell ⟨w.heap.size + 1, 0, none⟩ (.int .u64 0)).setCell ⟨w.heap.size + 1 + 1, 0, none⟩ (.bool false) → V.heap[w4.heap.size]? = some (.deferred (some [])) ∧ Boxed V (w.heap.size + 1) 31 (.int .u64 0) ∧ Boxed V (w.heap.size + 1 + 1) 4 (.bool false) ∧ Below w.heap.size w V) := Lib.hid (fun V hV => by
      subst hV
      refine ⟨?_, (Boxed.set _ a1).other (by omega) _, Boxed.set _ (a2.other (by omega) _), ?_⟩
      · exact (Below.heap_setCell _ _ _ _ (by simp; omega)).trans ((Below.heap_setCell _ _ _ _ (by simp; omega)).trans hK)
      · exact (hBU.setCell (p := ⟨w.heap.size + 1, 0, none⟩) (by show w.heap.size ≤ w.heap.size + 1; omega) _).setCell (p := ⟨w.heap.size + 1 + 1, 0, none⟩) (by show w.heap.size ≤ w.heap.size + 1 + 1; omega) _)
    clear a1 a2 hBU hno hK hnone
    gi_wp2
    obtain ⟨hK, z1, z2, hBV⟩ := HX.out _ rfl
    refine ⟨by simp, .inl ⟨_, _, rfl, run_takeDeferred hK, ?_⟩⟩
    rw [HN0.out]
    exact first_leaves hK z1 z2 hBV hs4 rfl rfl rfl
  case stop =>
    rintro c U hlt2 ⟨rfl, ⟨s, hs, x1, x2⟩, hBU⟩ hK
    have HS := Lib.hid hs
    clear hs
    gi_wp2
    refine ⟨by simp, .inl ⟨_, _, rfl, run_takeDeferred hK, ?_⟩⟩
    rw [HS.out]
    exact first_leaves hK x1 x2 hBU hs4 rfl rfl rfl
theorem first_any (p : Option Addr) (n : Nat) (L : List Pr) (f : Int) (hf : -9223372036854775808 ≤ f) (w : World) (h : GP w p n L) (hT : Tabs w) :
    Calls Tryd.prog 10 #[.pointer p, .int .i64 f] w fun e w' =>
      e = .returned (.tuple #[.int .u64 (((firstO n L f).getD 0 : Nat) : Int), .bool (firstO n L f).isSome]) ∧ Below w.heap.size w w' := callsIn_wide.1 (first_in 5 (Nat.le_refl _) p n L f hf w h hT)
end Go.Proofs.YtbgigimapogkcaaDoor.Cut
