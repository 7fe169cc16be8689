/- Going over the sets of few nodes beside the document's list of them (layer 18): the law's own walk. -/
import Derived.Test.YtbgigimapogkcaaDoorCutK
namespace Go.Proofs.YtbgigimapogkcaaDoor.Cut
open Go.RowKit Go.Shelf Go.ChangeShapes Go.WideShapes Go.ChangeAt
open Nodes (Tabs mem allN ret_int boxed_kept)
open Rea (RdU)
set_option linter.unusedVariables false
set_option linter.unusedSimpArgs false
set_option maxRecDepth 100000
attribute [local go_sem] Oper.semAt_some
theorem rdU_kept {U U' : World} {ad : Option Addr} {T : List Nat} {Q : Nat} (h : RdU U ad T) (hQ : ∀ b off, ad = some ⟨b, off, none⟩ → b < Q) (_ : True) (hs : U.heap.size ≤ U'.heap.size) (hk : ∀ j, j < Q → U'.heap[j]? = U.heap[j]?) : RdU U' ad T := fun i hi => by
  obtain ⟨b, e, hb, hc⟩ := h i hi
  refine ⟨b, e, Nat.lt_of_lt_of_le hb hs, ?_⟩
  rw [World.cell?] at hc ⊢
  rw [hk b (hQ b 0 e)]
  exact hc
theorem eql_nil (b b' : Nat) (W : World) : (binOp .eql 46 (.func (.func 32) #[] #[.pointer (some ⟨b, 0, none⟩), .pointer (some ⟨b', 0, none⟩)]) .nilFunc).run Tryd.prog W = .ok (.bool false) W := by
  kernel_rfl
set_option maxHeartbeats 8000000 in
theorem sets_in (Nn : Nat) (hN : 5 ≤ Nn) (A B F : Nat) (hA : A < 256) (hBb : B < 256) (hF : F < 65536) (w : World) (hT : Tabs w) :
    CallsIn Fence.wide Nn Tryd.prog 5 #[.int .u8 (A : Int), .int .u8 (B : Int), .int .u16 (F : Int)] w fun e w' => e = .returned (.bool true) ∧ Below w.heap.size w w' := by
  have h1 : 1 ≤ Nn := by omega
  obtain ⟨n, hn⟩ : ∃ n : Nat, (A : Int) % 9 = (n : Int) := ⟨A % 9, by omega⟩
  obtain ⟨m, hm⟩ : ∃ m : Nat, (B : Int) % 5 = (m : Int) := ⟨B % 5, by omega⟩
  have hn9 : n < 9 := by omega
  have hm5 : m < 5 := by omega
  have CE := Lib.hid (fun W => each_any (n : Int) (m : Int) (by omega) (by omega) W)
  rw [clamp_nat (show n ≤ 64 by omega)] at CE
  have CS := Lib.hid (fun W => rsets_any n (by omega) (m : Int) (by omega) W)
  have CW := Lib.hid (fun W hT => works18_any W hT)
  have HT := Lib.hid hT
  clear hT
  unfold SetsPost at CS
  obtain ⟨T, hTe⟩ : ∃ T, upTo n (min (m : Int) (n : Int) + 1).toNat = T := ⟨_, rfl⟩
  have HTE := Lib.hid hTe
  rw [hTe] at CS
  have hTl : T.length ≤ 100000 := by
    have := upTo_len n (min (m : Int) (n : Int) + 1).toNat
    have hp : (2 : Nat) ^ n ≤ 2 ^ 12 := Nat.pow_le_pow_right (by decide) (by omega)
    have h2 : (min (m : Int) (n : Int) + 1).toNat * 2 ^ n ≤ 13 * 4096 := Nat.mul_le_mul (by omega) (by omega)
    rw [hTe] at this
    omega
  obtain ⟨k, hk⟩ : ∃ k, Hid (T.length = k) := ⟨_, Lib.hid rfl⟩
  rw [hk.out] at CS hTl
  clear hTe
  refine callsIn_of_wp_marks Tryd.func5 rfl trivial ?_ rfl
  simp only [Tryd.ntmps5, List.size_toArray, List.length_cons, List.length_nil, Nat.reduceAdd, Nat.reduceSub, Array.replicate_succ, Array.replicate_zero, List.push_toArray, List.append_toArray, List.nil_append, List.cons_append]
  have hnil := eql_nil
  gi_wp2_with (first
    | (refine ⟨trivial, ?_⟩; gi_at_call 18; refine (callsIn_wide.2 (CE.out _)).mono ?_; rintro e w3 ⟨rfl, bM, bA, hB3⟩)
    | (refine ⟨trivial, ?_⟩; gi_at_call 19; refine (callsIn_wide.2 (CS.out _)).mono ?_; rintro e w4 ⟨adl, capl, rfl, hown, hB4⟩))
  have hsz1 : ((w.alloc (.cells #[.int .u16 (F : Int)] 44)).alloc (.cells #[.bool false] 4)).heap.size = w.heap.size + 1 + 1 := by simp
  have bF := (Boxed.new w 44 (.int .u16 (F : Int))).alloc (.cells #[.bool false] 4)
  have bR := Boxed.new (w.alloc (.cells #[.int .u16 (F : Int)] 44)) 4 (.bool false)
  have hB02 : Below w.heap.size w ((w.alloc (.cells #[.int .u16 (F : Int)] 44)).alloc (.cells #[.bool false] 4)) := ((Below.refl _ w).alloc (Nat.le_refl _) _).alloc (by simp) _
  rw [World.size_alloc] at bR
  rw [hsz1] at bM bA hB3
  have hs3 : w.heap.size + 1 + 1 + 1 < w3.heap.size := bA.lt
  have bF3 : Boxed w3 w.heap.size 44 (.int .u16 (F : Int)) := (hB3.block _ (by omega)).trans bF
  have bR3 : Boxed w3 (w.heap.size + 1) 4 (.bool false) := (hB3.block _ (by omega)).trans bR
  have hB03 : Below w.heap.size w w3 := hB02.trans (hB3.mono (by omega))
  have hs4 := hB4.size
  have hB04 : Below w.heap.size w w4 := hB03.trans (hB4.mono hB03.size)
  obtain ⟨wL, hwL⟩ : ∃ wL, (w4.alloc (.cells #[.slice adl k capl] 48)).alloc (.cells #[.int .i64 0] 3) = wL := ⟨_, rfl⟩
  have hBL : Below w4.heap.size w4 wL := by rw [← hwL]; exact ((Below.refl _ _).alloc (Nat.le_refl _) _).alloc (by simp) _
  have hsL : wL.heap.size = w4.heap.size + 1 + 1 := by rw [← hwL]; simp
  have bL : Boxed wL w4.heap.size 48 (.slice adl k capl) := by rw [← hwL]; exact (Boxed.new w4 _ _).alloc _
  have bI : Boxed wL (w4.heap.size + 1) 3 (.int .i64 0) := by
    have := Boxed.new (w4.alloc (.cells #[.slice adl k capl] 48)) 3 (.int .i64 0)
    rw [World.size_alloc, hwL] at this
    exact this
  have hst : ∀ {t : TypeId} {v : Value} {b : Nat}, Boxed w3 b t v → Boxed wL b t v := fun {t v b} h => by
    have h1 := (hB4.block _ h.lt).trans h
    exact (hBL.block _ (Nat.lt_of_lt_of_le h.lt hs4)).trans h1
  have bFL := hst bF3
  have bRL := hst bR3
  have bML := hst bM
  have bAL := hst bA
  have hB0L : Below w.heap.size w wL := hB04.trans (hBL.mono hB04.size)
  have hRL := (OwnW.rd hown).1
  have hlt : ∀ b off, adl = some ⟨b, off, none⟩ → b < w4.heap.size := fun b off e => (hown.lt b (by rw [e]; rfl)).2
  have hRLL := hRL.below hBL
  have HLT := Lib.hid hlt
  rw [hwL]
  clear hown hRL hlt hst bF bR bF3 bR3 bM bA hB3 hB4 hB02 hB03 hBL hwL CE CS hsz1 hnil
  obtain ⟨Q, hQ⟩ : ∃ Q, w4.heap.size = Q := ⟨_, rfl⟩
  rw [hQ] at bL bI hsL HLT hs4 ⊢
  have hsQ : w.heap.size + 1 + 1 + 1 < Q := by omega
  clear hQ hs3 hs4 hB04
  refine Rgb.wpIn_range (F := Fence.wide) rfl h1 (gf := 32) (lb := #[.pointer (some ⟨w.heap.size + 1 + 1, 0, none⟩), .pointer (some ⟨w.heap.size + 1 + 1 + 1, 0, none⟩)]) rfl trivial (enters_of Tryd.func32 (by kernel_rfl) rfl)
    (N := T.length) (encs := encS T) (I := fun i U => (Boxed U w.heap.size 44 (.int .u16 (F : Int)) ∧ Boxed U (w.heap.size + 1) 4 (.bool false) ∧ Boxed U (w.heap.size + 1 + 1) 3 (.int .i64 (min (m : Int) (n : Int))) ∧ Boxed U (w.heap.size + 1 + 1 + 1) 31 (.int .u64 (allN (n : Int) : Nat)) ∧ Boxed U Q 48 (.slice adl k capl) ∧ Boxed U (Q + 1) 3 (.int .i64 (i : Int))) ∧ RdU U adl T ∧ Below w.heap.size w U ∧ i ≤ F)
    (Ix := fun c U => c = .exit 0 ∧ F + 1 ≤ k ∧ (Boxed U w.heap.size 44 (.int .u16 (F : Int)) ∧ Boxed U (w.heap.size + 1) 4 (.bool false) ∧ Boxed U Q 48 (.slice adl k capl) ∧ Boxed U (Q + 1) 3 (.int .i64 ((F : Int) + 1))) ∧ Below w.heap.size w U) (fun _ => rfl)
    (fun i U U' hI hB => ⟨⟨(hB.block _ (by omega)).trans hI.1.1, (hB.block _ (by omega)).trans hI.1.2.1, (hB.block _ (by omega)).trans hI.1.2.2.1, (hB.block _ (by omega)).trans hI.1.2.2.2.1, (hB.block _ (by omega)).trans hI.1.2.2.2.2.1, (hB.block _ (by omega)).trans hI.1.2.2.2.2.2⟩, rdU_kept hI.2.1 HLT.out trivial hB.size (fun j hj => hB.block j (by omega)), hI.2.2.1.trans (hB.mono (by omega)), hI.2.2.2⟩)
    (fun c U U' hI hB => ⟨hI.1, hI.2.1, ⟨(hB.block _ (by omega)).trans hI.2.2.1.1, (hB.block _ (by omega)).trans hI.2.2.1.2.1, (hB.block _ (by omega)).trans hI.2.2.1.2.2.1, (hB.block _ (by omega)).trans hI.2.2.1.2.2.2⟩, hI.2.2.2.trans (hB.mono (by omega))⟩)
    ⟨⟨bFL, bRL, bML, bAL, bL, bI⟩, hRLL, hB0L, Nat.zero_le _⟩
    (fun U hU h0 => by rw [← HTE.out]; exact each1_iter (Nn - 1) (by omega) n _ _ _ (by omega) (by omega) (by omega) _ U (fun i U1 h => ⟨⟨h.1.2.2.1.cell, h.1.2.2.2.1.cell⟩, HT.out.below h.2.2.1⟩))
    (fun i _ => { tmps := #[.int .u8 (A : Int), .int .u8 (B : Int), .int .u16 (F : Int), undef, undef, .pointer (some ⟨w.heap.size, 0, none⟩), .pointer (some ⟨w.heap.size + 1, 0, none⟩),
      .func (.func 32) #[] #[.pointer (some ⟨w.heap.size + 1 + 1, 0, none⟩), .pointer (some ⟨w.heap.size + 1 + 1 + 1, 0, none⟩)], .pointer (some ⟨Q, 0, none⟩), .pointer (some ⟨Q + 1, 0, none⟩), .int .u64 ((T.getD i 0 : Nat) : Int), .int .u8 (A : Int), .int .u8 (n : Int), .int .i64 (n : Int), .int .u8 (B : Int), .int .u8 (m : Int), .int .i64 (m : Int),
      .func (.func 32) #[] #[.pointer (some ⟨w.heap.size + 1 + 1, 0, none⟩), .pointer (some ⟨w.heap.size + 1 + 1 + 1, 0, none⟩)], .func (.func 32) #[] #[.pointer (some ⟨w.heap.size + 1 + 1, 0, none⟩), .pointer (some ⟨w.heap.size + 1 + 1 + 1, 0, none⟩)],
      .bool false, .int .u8 (A : Int), .int .u8 (n : Int), .int .i64 (n : Int), .int .u8 (B : Int), .int .u8 (m : Int), .int .i64 (m : Int), .slice adl k capl,
      .func (.func 32) #[] #[.pointer (some ⟨w.heap.size + 1 + 1, 0, none⟩), .pointer (some ⟨w.heap.size + 1 + 1 + 1, 0, none⟩)], .int .u64 ((T.getD i 0 : Nat) : Int),
      undef, undef, undef, undef, undef, undef, undef, undef, undef, undef, undef, undef, undef, undef, undef, undef, undef, undef, undef, undef, undef, undef, undef, undef, undef, undef, undef, undef, undef], defers := [] })
    (fun _ U => U) (fun i U => Below.refl _ U) ?assign ?body ?done ?stop
  case assign =>
    intro l2 i U K hK
    unfold encS
    generalize T.getD i 0 = s at *
    gi_wp2
    exact hK
  case body =>
    intro l2 i U U2 hi hDl hlt2 hI1 hI2 hs2 hk2
    obtain ⟨⟨xF, xR, xM, xA, xL, xI⟩, hRd, hBU, hiF⟩ := hI2
    obtain ⟨b, rfl, hbl, hcb⟩ := hRd i hi
    have hbQ := HLT.out b 0 rfl
    have hik : (i : Int) < (k : Int) := by rw [← hk.out]; omega
    have hV : Boxed (U2.setCell ⟨Q + 1, 0, none⟩ (.int .i64 ((i : Int) + 1))) (Q + 1) 3 (.int .i64 ((i : Int) + 1)) := Boxed.set _ xI
    have oth : ∀ {t : TypeId} {v : Value} {j : Nat}, Boxed U2 j t v → j ≠ Q + 1 → Boxed (U2.setCell ⟨Q + 1, 0, none⟩ (.int .i64 ((i : Int) + 1))) j t v := fun {t v j} h hne => (Below.heap_setCell _ _ _ j hne).trans h
    have cF2 := (oth xF (by omega)).cell
    have cI2 := hV.cell
    have HP : Hid (Rgb.KeepNew wL.heap.size U2 (U2.setCell ⟨Q + 1, 0, none⟩ (.int .i64 ((i : Int) + 1))) ∧ Below w.heap.size w (U2.setCell ⟨Q + 1, 0, none⟩ (.int .i64 ((i : Int) + 1))) ∧ RdU (U2.setCell ⟨Q + 1, 0, none⟩ (.int .i64 ((i : Int) + 1))) (some ⟨b, 0, none⟩) T) := Lib.hid
      ⟨Rgb.KeepNew.setCell U2 (p := ⟨Q + 1, 0, none⟩) (by show Q + 1 < wL.heap.size; omega) _, hBU.setCell (p := ⟨Q + 1, 0, none⟩) (by show w.heap.size ≤ Q + 1; omega) _,
        rdU_kept hRd HLT.out trivial (by show U2.heap.size ≤ (U2.heap.modify _ _).size; rw [Array.size_modify]; exact Nat.le_refl _) (fun j hj => Below.heap_setCell _ _ _ j (by show j ≠ Q + 1; omega))⟩
    have HX := Lib.hid (And.intro (oth xF (by omega)) (And.intro (oth xR (by omega)) (And.intro (oth xM (by omega)) (And.intro (oth xA (by omega)) (And.intro (oth xL (by omega)) hV)))))
    have cF := xF.cell
    have cL := xL.cell
    have cI := xI.cell
    have fI := xI.frozen
    clear oth xF xR xM xA xL xI hRd hBU hV hI1 hs2 hk2
    generalize T.getD i 0 = s at *
    have hss : (((s : Nat) : Int) != ((s : Nat) : Int)) = false := by simp
    gi_wp2
    · have hfar : (F : Int) < (i : Int) + 1 := by assumption
      obtain rfl : i = F := by omega
      obtain ⟨y1, y2, y3, y4, y5, y6⟩ := HX.out
      exact ⟨HP.out.1, rfl, by omega, ⟨y1, y2, y5, y6⟩, HP.out.2.1⟩
    · have hfar : (i : Int) + 1 ≤ (F : Int) := by assumption
      obtain ⟨y1, y2, y3, y4, y5, y6⟩ := HX.out
      exact ⟨HP.out.1, ⟨y1, y2, y3, y4, y5, y6⟩, HP.out.2.2, HP.out.2.1, by omega⟩
  case done =>
    intro U hlt2 hI hK
    rw [hsL] at hK hlt2
    obtain ⟨⟨xF, xR, -, -, xL, xI⟩, -, hBU, hiF⟩ := hI
    rw [hk.out] at xI hiF
    have ht : ((k : Int) == min (k : Int) ((F : Int) + 1)) = true := by rw [beq_iff_eq]; omega
    have CWU := Lib.hid (CW.out U (HT.out.below hBU))
    have cF := xF.cell
    have cR := xR.cell
    have fR := xR.frozen
    have cL := xL.cell
    have cI := xI.cell
    gi_wp2_with (refine ⟨trivial, ?_⟩; gi_at_call 14; refine (callsIn_wide.2 CWU.out).mono ?_; rintro e w9 ⟨rfl, hB9⟩; have hR9 : Boxed w9 (w.heap.size + 1) 4 (.bool false) := (hB9.block _ xR.lt).trans xR; have cR9 := hR9.cell; have fR9 := hR9.frozen)
    have hK9 : w9.heap[Q + 1 + 1]? = some (.deferred (some [])) := (hB9.block _ (Array.getElem?_eq_some_iff.1 hK).1).trans hK
    have hKA := (KeepsOthers.setCell w9 ⟨w.heap.size + 1, 0, none⟩ (.bool true)).same _ _ hK9 rfl
    refine ⟨by simp, .inl ⟨_, _, rfl, run_takeDeferred hKA, ?_⟩⟩
    have hc5 := cell_kept (hR9.set (.bool true)).cell (grownBy_putObj' _ (Q + 1 + 1) (.deferred none)) (fun r e => by cases e; exact ⟨_, hKA, rfl⟩)
    have hBA := (hBU.trans (hB9.mono hBU.size)).setCell (p := ⟨w.heap.size + 1, 0, none⟩) (by simp) (.bool true)
    refine ⟨.bool true, ?_, rfl, hBA.trans (belowK_b (w := w) (Nat.le_refl _) _ (Q + 1 + 1) _ _ (by omega) hKA rfl rfl)⟩
    simp [results, Tryd.f5, go_sem, hc5]
  case stop =>
    rintro c U hlt2 ⟨rfl, hFk, ⟨xF, xR, xL, xI⟩, hBU⟩ hK
    rw [hsL] at hK hlt2
    have ht : (((F : Int) + 1) == min (k : Int) ((F : Int) + 1)) = true := by rw [beq_iff_eq]; omega
    have CWU := Lib.hid (CW.out U (HT.out.below hBU))
    have cF := xF.cell
    have cR := xR.cell
    have fR := xR.frozen
    have cL := xL.cell
    have cI := xI.cell
    gi_wp2_with (refine ⟨trivial, ?_⟩; gi_at_call 14; refine (callsIn_wide.2 CWU.out).mono ?_; rintro e w9 ⟨rfl, hB9⟩; have hR9 : Boxed w9 (w.heap.size + 1) 4 (.bool false) := (hB9.block _ xR.lt).trans xR; have cR9 := hR9.cell; have fR9 := hR9.frozen)
    have hK9 : w9.heap[Q + 1 + 1]? = some (.deferred (some [])) := (hB9.block _ (Array.getElem?_eq_some_iff.1 hK).1).trans hK
    have hKA := (KeepsOthers.setCell w9 ⟨w.heap.size + 1, 0, none⟩ (.bool true)).same _ _ hK9 rfl
    refine ⟨by simp, .inl ⟨_, _, rfl, run_takeDeferred hKA, ?_⟩⟩
    have hc5 := cell_kept (hR9.set (.bool true)).cell (grownBy_putObj' _ (Q + 1 + 1) (.deferred none)) (fun r e => by cases e; exact ⟨_, hKA, rfl⟩)
    have hBA := (hBU.trans (hB9.mono hBU.size)).setCell (p := ⟨w.heap.size + 1, 0, none⟩) (by simp) (.bool true)
    refine ⟨.bool true, ?_, rfl, hBA.trans (belowK_b (w := w) (Nat.le_refl _) _ (Q + 1 + 1) _ _ (by omega) hKA rfl rfl)⟩
    simp [results, Tryd.f5, go_sem, hc5]
end Go.Proofs.YtbgigimapogkcaaDoor.Cut
