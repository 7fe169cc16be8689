/- Contracts of package cut (layer 18): all sets of few nodes, one behind the other: an iterator that goes over iterators. -/
import Derived.Test.YtbgigimapogkcaaDoorCutB
import Derived.Test.YtbgigimapogkcaaDoorMarkA
import Derived.Test.YtbgigimapogkcaaDoorCutE
namespace Go.Proofs.YtbgigimapogkcaaDoor.Cut
open Go.RowKit Go.Shelf Go.ChangeShapes Go.WideShapes Go.ChangeAt
open Nodes (Tabs mem allN firstN andNotN bitN ofL leastN ret_int)
open Mrk (Marks marks_leave)
set_option linter.unusedVariables false
set_option linter.unusedSimpArgs false
set_option maxRecDepth 100000
attribute [local go_sem] Oper.semAt_some
/-- A round of one's own caller, called from within a round of another range: where no depth is asked. -/
theorem yieldAt_inner {F : Fence} (hd : F.depth = none) {m : Nat} (m' l' : Nat) {P : Program} {l : Nat} {args : Array Value} {W : World} {R : Ending → World → Prop}
    (h : YieldAt F m P l args W R) : YieldAt (F.inRound l') m' P l args W R := by
  obtain ⟨fn, tmps, assign, body, hy, h1, h2⟩ := h
  exact ⟨fn, tmps, assign, body, hy, h1, fun c cs _ => h2 c cs (fun d h => by rw [hd] at h; cases h)⟩
/-- What Each's closure has captured. -/
structure Eac (n : Nat) (most : Int) (bm ba : Nat) (W : World) : Prop where
  most : W.cell? ⟨bm, 0, none⟩ = some (.int .i64 most)
  all : W.cell? ⟨ba, 0, none⟩ = some (.int .u64 (allN (n : Int) : Nat))
def offS (n k : Nat) : Nat := (upTo n k).length
theorem off_succ (n k : Nat) : offS n (k + 1) = offS n k + (setsK n k).length := by unfold offS; rw [upTo_succ, List.length_append]
theorem upTo_split {n : Nat} {k M : Nat} (h : k < M) : ∃ r, upTo n M = upTo n k ++ (setsK n k ++ r) := by
  obtain ⟨d, rfl⟩ : ∃ d, M = k + 1 + d := ⟨M - (k + 1), by omega⟩
  clear h
  induction d with
  | zero => exact ⟨[], by rw [Nat.add_zero, upTo_succ, List.append_nil]⟩
  | succ d ih =>
    obtain ⟨r, e⟩ := ih
    exact ⟨r ++ setsK n (k + 1 + d), by rw [show k + 1 + (d + 1) = (k + 1 + d) + 1 by omega, upTo_succ, e]; simp⟩
theorem upTo_at {n k M i : Nat} (h : k < M) (hi : i < (setsK n k).length) : offS n k + i < (upTo n M).length ∧ (upTo n M).getD (offS n k + i) 0 = (setsK n k).getD i 0 := by
  obtain ⟨r, e⟩ := upTo_split (n := n) h
  unfold offS
  constructor
  · rw [e]; simp; omega
  · rw [e]
    simp only [List.getD]
    rw [List.getElem?_append_right (by omega), show (upTo n k).length + i - (upTo n k).length = i by omega, List.getElem?_append_left hi]
def kOf : Value → Nat | .int _ k => k.toNat | _ => 0
/-- The frame ahead of the sets of k nodes. -/
def EJ (n M : Nat) (most : Int) (bm ba l : Nat) (J : Nat → World → Prop) (W : World) (a : Act) (V : World) : Prop :=
  ∃ (k : Nat) (ds : List Deferred) (u4 u5 u9 u10 u11 u12 u13 u14 u15 u16 u17 u18 u19 : Value), a = { tmps := List.toArray (.func (.yield l) #[] #[] :: .pointer (some ⟨bm, 0, none⟩) :: .pointer (some ⟨ba, 0, none⟩) :: .pointer (some ⟨W.heap.size, 0, none⟩) :: u4 :: u5 :: .int .i64 most :: .int .i64 (most + 1) :: .int .i64 (k : Int) :: u9 :: u10 :: u11 :: u12 :: u13 :: u14 :: u15 :: u16 :: u17 :: u18 :: u19 :: []), defers := ds } ∧
    k ≤ M ∧ J (offS n k) V ∧ Boxed V W.heap.size 67 (.func (.yield l) #[] #[]) ∧ W.heap.size < V.heap.size ∧ Marks W.heap.size V.heap.size ds V
set_option maxHeartbeats 4000000 in
theorem each1_iter (N : Nat) (hN : 3 ≤ N) (n : Nat) (most : Int) (bm ba : Nat) (hn : n ≤ 64) (hm : most ≤ n) (hl : -9223372036854775808 ≤ most) (I : Nat → World → Prop) (W : World) (hR : ∀ i W1, I i W1 → Eac n most bm ba W1 ∧ Tabs W1) :
    Rgb.Iter Fence.wide N Tryd.prog 32 #[.pointer (some ⟨bm, 0, none⟩), .pointer (some ⟨ba, 0, none⟩)] (upTo n (most + 1).toNat).length (encS (upTo n (most + 1).toNat)) I W := by
  intro l J Jx hJI hJB hXB hY hJ0
  have h1 : 1 ≤ N := by omega
  obtain ⟨⟨c0, c1⟩, -⟩ := hR 0 W (hJI 0 W hJ0)
  have hb0 : bm < W.heap.size := by
    rw [World.cell?] at c0
    cases hh : W.heap[bm]? with
    | none => rw [hh] at c0; simp at c0
    | some o => exact (Array.getElem?_eq_some_iff.1 hh).1
  have hc0 := cell_kept' (.cells #[.func (.yield l) #[] #[]] 67) c0
  obtain ⟨M, hM⟩ : ∃ M, M = (most + 1).toNat := ⟨_, rfl⟩
  have HME : Hid ((upTo n (most + 1).toNat).length = offS n M) := Lib.hid (by rw [hM]; rfl)
  rw [← hM] at hY ⊢
  have HW0 : Hid (Boxed (W.alloc (.cells #[.func (.yield l) #[] #[]] 67)) W.heap.size 67 (.func (.yield l) #[] #[])) := Lib.hid (Boxed.new W _ _)
  have HJ0 : Hid (J 0 (W.alloc (.cells #[.func (.yield l) #[] #[]] 67))) := Lib.hid (hJB 0 W _ hJ0 ((Below.refl _ W).alloc (Nat.le_refl _) _))
  have hs0 : W.heap.size < (W.alloc (.cells #[.func (.yield l) #[] #[]] 67)).heap.size := by simp
  have HS0 := Lib.hid hs0
  have HY := Lib.hid hY
  have HJB := Lib.hid hJB
  have HXB := Lib.hid hXB
  have HEJ : Hid (∀ i V, J i V → Eac n most bm ba V ∧ Tabs V) := Lib.hid (fun i V h => hR i V (hJI i V h))
  have HMP : Hid (∀ k : Nat, (k : Int) < most + 1 ↔ k < M) := Lib.hid (fun k => by omega)
  clear hR hJI hJB hXB hY hJ0 c0 c1 hs0
  refine callsIn_of_wp_marks Tryd.func32 rfl trivial ?_ rfl
  simp only [Tryd.ntmps32, List.size_toArray, List.length_cons, List.length_nil, Nat.reduceAdd, Nat.reduceSub, Array.replicate_succ, Array.replicate_zero, List.push_toArray, List.append_toArray, List.nil_append, List.cons_append]
  gi_wp2
  clear hc0
  generalize W.alloc (.cells #[.func (.yield l) #[] #[]] 67) = W1 at *
  refine wpIn_loop (EJ n M most bm ba l J W) (fun a _ => M - kOf (a.tmps.getD 8 undef)) ?start ?round
  case start =>
    exact ⟨0, [], _, _, _, _, _, _, _, _, _, _, _, _, _, rfl, Nat.zero_le _, HJ0.out, HW0.out, HS0.out, trivial⟩
  case round =>
    rintro a V ⟨k, ds, u4, u5, u9, u10, u11, u12, u13, u14, u15, u16, u17, u18, u19, rfl, hk, hJ, hbx, hsz, hMk⟩
    by_cases hlt : k < M
    · have hdt : decide ((k : Int) < most + 1) = true := by
        rw [decide_eq_true_iff, HMP.out]; exact hlt
      have hkn : k ≤ n := by have := (HMP.out k).2 hlt; omega
      obtain ⟨⟨-, c1⟩, hT⟩ := HEJ.out _ V hJ
      have CA := Lib.hid (alike_any n k hkn hn V)
      have HJ := Lib.hid hJ
      have HBX := Lib.hid hbx
      have HMk := Lib.hid hMk
      clear hJ hbx hMk hT
      gi_wp2_with (refine ⟨trivial, ?_⟩; gi_at_call 33; refine (callsIn_wide.2 CA.out).mono ?_; rintro e w4 ⟨rfl, bA, bK, bL, hB4⟩)
      have hs4 : V.heap.size + 2 < w4.heap.size := bL.lt
      have HOF := Lib.hid (fun i (hi : i < (setsK n k).length) => upTo_at (n := n) hlt hi)
      clear CA c1
      refine Rgb.wpIn_range (F := Fence.wide) rfl h1 (gf := 46) (lb := #[.pointer (some ⟨V.heap.size, 0, none⟩), .pointer (some ⟨V.heap.size + 1, 0, none⟩), .pointer (some ⟨V.heap.size + 2, 0, none⟩)]) rfl trivial (enters_of Tryd.func46 (by kernel_rfl) rfl)
        (N := (setsK n k).length) (encs := encS (setsK n k)) (I := fun i U => J (offS n k + i) U ∧ (Boxed U W.heap.size 67 (.func (.yield l) #[] #[]) ∧ Boxed U V.heap.size 31 (.int .u64 (allN (n : Int) : Nat)) ∧ Boxed U (V.heap.size + 1) 3 (.int .i64 (k : Int)) ∧ Boxed U (V.heap.size + 2) 31 (.int .u64 (lastK n k : Nat))) ∧ Marks W.heap.size V.heap.size ds U)
        (Ix := fun c U => c = .ret ∧ Jx U ∧ Marks W.heap.size V.heap.size ds U) (fun _ => rfl)
        (fun i U U' hI hB => ⟨HJB.out _ _ _ hI.1 (hB.mono (by omega)), ⟨(hB.block _ (by omega)).trans hI.2.1.1, (hB.block _ (by omega)).trans hI.2.1.2.1, (hB.block _ (by omega)).trans hI.2.1.2.2.1, (hB.block _ (by omega)).trans hI.2.1.2.2.2⟩, hI.2.2.same fun D h1 h2 => (hB.block D (by omega)).trans h2⟩)
        (fun c U U' hI hB => ⟨hI.1, HXB.out _ _ hI.2.1 (hB.mono (by omega)), hI.2.2.same fun D h1 h2 => (hB.block D (by omega)).trans h2⟩)
        ⟨HJB.out _ _ _ HJ.out (hB4.mono (by omega)), ⟨(hB4.block _ (by omega)).trans HBX.out, bA, bK, bL⟩, HMk.out.same fun D h1 h2 => (hB4.block D (by omega)).trans h2⟩
        (fun U hU h0 => alike1_iter (N - 1) (by omega) n k _ _ _ hkn hn _ U (fun i U1 h => ⟨⟨h.2.1.2.1.cell, h.2.1.2.2.1.cell, h.2.1.2.2.2.cell⟩, (HEJ.out _ _ h.1).2⟩))
        (fun i _ => { tmps := List.toArray (.func (.yield l) #[] #[] :: .pointer (some ⟨bm, 0, none⟩) :: .pointer (some ⟨ba, 0, none⟩) :: .pointer (some ⟨W.heap.size, 0, none⟩) :: .int .i64 (k : Int) :: .int .u64 (((setsK n k).getD i 0 : Nat) : Int) :: .int .i64 most :: .int .i64 (most + 1) :: .int .i64 (k : Int) :: .bool true :: .int .i64 (k : Int) :: .int .u64 (allN (n : Int) : Nat) :: .int .i64 (k : Int) :: .func (.func 46) #[] #[.pointer (some ⟨V.heap.size, 0, none⟩), .pointer (some ⟨V.heap.size + 1, 0, none⟩), .pointer (some ⟨V.heap.size + 2, 0, none⟩)] :: .int .u64 (((setsK n k).getD i 0 : Nat) : Int) :: u15 :: u16 :: u17 :: u18 :: u19 :: []), defers := [] })
        (fun _ U => U) (fun i U => Below.refl _ U) ?assign ?body ?done ?stop
      case assign =>
        intro l2 i U K hK
        unfold encS
        gi_wp2
        exact hK
      case body =>
        intro l2 i U U2 hi hDl hlt2 hI1 hI2 hs2 hk2
        obtain ⟨hJ, ⟨hb1, hbA, hbK, hbL⟩, hM2⟩ := hI2
        obtain ⟨hin, hget⟩ := HOF.out i hi
        rw [hM] at hin
        obtain ⟨fn, tmps, assign, body, hy, hRo⟩ := yieldAt_inner (F := Fence.wide) rfl (N - 1 - 1 - 1) l2 (HY.out (offS n k + i) U2 (by rw [← hM] at hin; exact hin) hJ)
        unfold encS at hy
        rw [hget] at hy
        have c3 := hb1.cell
        have HB1 := Lib.hid (And.intro hb1 (And.intro hbA (And.intro hbK hbL)))
        have HM2 := Lib.hid hM2
        clear hI1 hJ hb1 hbA hbK hbL hM2 hin hget hs2 hk2
        generalize (setsK n k).getD i 0 = si at *
        gi_wp2
        refine ⟨fun h => absurd h Bool.false_ne_true, hRo.mono ?_⟩
        rintro e W3 (⟨rfl, hJ3, hk3⟩ | ⟨rfl, hJx3, hk3⟩)
        · have HF : Hid (Rgb.KeepNew w4.heap.size U2 W3 ∧ J (offS n k + (i + 1)) W3 ∧ (Boxed W3 W.heap.size 67 (.func (.yield l) #[] #[]) ∧ Boxed W3 V.heap.size 31 (.int .u64 (allN (n : Int) : Nat)) ∧ Boxed W3 (V.heap.size + 1) 3 (.int .i64 (k : Int)) ∧ Boxed W3 (V.heap.size + 2) 31 (.int .u64 (lastK n k : Nat))) ∧ Marks W.heap.size V.heap.size ds W3) := Lib.hid
            ⟨hk3.mono (by omega), hJ3, ⟨(hk3.same _ (by omega) HB1.out.1.lt).trans HB1.out.1, (hk3.same _ (by omega) HB1.out.2.1.lt).trans HB1.out.2.1, (hk3.same _ (by omega) HB1.out.2.2.1.lt).trans HB1.out.2.2.1, (hk3.same _ (by omega) HB1.out.2.2.2.lt).trans HB1.out.2.2.2⟩,
              HM2.out.keep fun D h1 h2 h3 _ _ _ => (hk3.same D h1 (Array.getElem?_eq_some_iff.1 h3).1).trans h3⟩
          clear hJ3 hk3
          gi_wp2
          exact HF.out
        · have HF : Hid (Rgb.KeepNew w4.heap.size U2 W3 ∧ Code.ret = Code.ret ∧ Jx W3 ∧ Marks W.heap.size V.heap.size ds W3) := Lib.hid
            ⟨hk3.mono (by omega), rfl, hJx3, HM2.out.keep fun D h1 h2 h3 _ _ _ => (hk3.same D h1 (Array.getElem?_eq_some_iff.1 h3).1).trans h3⟩
          clear hJx3 hk3
          gi_wp2
          exact ⟨HF.out.1, rfl, HF.out.2.2⟩
      case done =>
        intro U hlt2 hI hK
        gi_wp2
        refine ⟨⟨k + 1, _, _, _, _, _, _, _, _, _, _, _, _, _, _, rfl, by omega, by rw [off_succ]; exact hI.1, hI.2.1.1, by omega, hI.2.2.push (by omega) (by omega) (Array.getElem?_eq_some_iff.1 hK).1 hK⟩, ?_⟩
        simp [kOf]
        omega
      case stop =>
        rintro c U hlt2 ⟨rfl, hX, hM2⟩ hK
        gi_wp2
        refine marks_leave (K := Jx) (fun V D hD hK hV => HXB.out _ _ hV (belowK_b (w := W) (Nat.le_refl _) V D _ _ hD hK rfl rfl)) (fun V hV => ⟨_, results_none rfl _ _ _, ⟨_, rfl⟩, .inr hV⟩) _ U (hM2.push (D := w4.heap.size) (top' := U.heap.size) (by omega) (by omega) (Array.getElem?_eq_some_iff.1 hK).1 hK) hX
    · have hkm : k = M := by omega
      have hd : decide ((k : Int) < most + 1) = false := by
        rw [decide_eq_false_iff_not, HMP.out]; exact hlt
      have HJ : Hid (J (upTo n (most + 1).toNat).length V) := Lib.hid (by rw [HME.out, ← hkm]; exact hJ)
      have HMk := Lib.hid hMk
      clear hJ hMk
      gi_wp2
      refine marks_leave (K := fun V => J (upTo n M).length V) (fun V D hD hK hV => HJB.out _ _ _ hV (belowK_b (w := W) (Nat.le_refl _) V D _ _ hD hK rfl rfl)) (fun V hV => ⟨_, results_none rfl _ _ _, ⟨_, rfl⟩, .inl hV⟩) ds V HMk.out ?_
      rw [hM]
      exact HJ.out
end Go.Proofs.YtbgigimapogkcaaDoor.Cut
