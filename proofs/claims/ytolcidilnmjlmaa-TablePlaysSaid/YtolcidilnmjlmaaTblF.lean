/- slices.Grow of nil, slices.Concat of one piece or none. -/
import Derived.Test.YtolcidilnmjlmaaTblE
import Derived.Lib.AppendZeros
import Derived.Handy
namespace Go.Proofs.Ytolcidilnmjlmaa.Tbl
open Go.ChangeShapes Go.WideShapes Go.ChangeAt Go.RowKit
open Go.Proofs.Ytolcidilnmjlmaa.Key Go.Proofs.Ytolcidilnmjlmaa.Rw
set_option linter.unusedVariables false
set_option maxRecDepth 100000 in
theorem grow_nil (n : Nat) (hm : n ≤ 1000000) (w : World) :
    Calls Try.prog 66 #[.slice none 0 0, .int .i64 n] w fun e w' => ∃ v, e = .returned v ∧ OwnK w' w.heap.size v [] ∧ Below w.heap.size w w' := by
  obtain ⟨i0, hi0, hz0, hz1, hz2⟩ := info_parts infoKey
  by_cases h0 : n = 0
  · subst h0
    have HP : Hid (OwnK w w.heap.size (.slice none 0 0) [] ∧ Below w.heap.size w w) := Lib.hid ⟨Rw.OwnS.nil _ _, Below.refl _ _⟩
    go_enter Try.func66, Try.ntmps66
    go_wp2_with fail
    go_ret
    exact ⟨_, rfl, HP.out⟩
  · have hap := Lib.run_append_nil_zeros (P := Try.prog) w 39 3 39 34 i0 (.agg #[.int .i64 0, .int .i64 0, .int .u32 0]) .i64 .i64 Try.underlying39 Try.underlying3 hi0 hz0 n (by omega) (by rw [hz1]; decide) (by omega) (by rw [hz2]; omega)
    have hge := grownCap_ge w n 0 34
    have hcm := grownCap_le_maxLen w n 0 34 (by unfold maxLen; omega)
    generalize grownCap w n 0 34 = c' at *
    obtain ⟨cs, hcs⟩ : ∃ cs, cs = Builtin.zeroCells (Value.agg #[Value.int IntKind.i64 0, Value.int IntKind.i64 0, Value.int IntKind.u32 0]).cells n ++ Builtin.zeroCells (Value.agg #[Value.int IntKind.i64 0, Value.int IntKind.i64 0, Value.int IntKind.u32 0]).cells (c' - n) := ⟨_, rfl⟩
    rw [← hcs] at hap
    have hsz : cs.size = c' * 3 := by
      rw [hcs, Array.size_append, size_zeroCells, size_zeroCells]
      simp [Value.cells]; omega
    have HP : Hid (OwnK (w.drew.alloc (.cells cs 34)) w.heap.size (.slice (some ⟨w.heap.size, 0, none⟩) 0 c') [] ∧ Below w.heap.size w (w.drew.alloc (.cells cs 34))) := Lib.hid (by
      refine ⟨?_, (Below.refl _ _).drew.alloc (Nat.le_refl _) _⟩
      exact of_row (n := 0) (xs := []) (Blk.new w.drew 34 cs) (Nat.le_refl _) (Nat.zero_le _) hcm hsz (by simp))
    have hc2 : c' ≤ 9223372036854775807 := by unfold maxLen at hcm; omega
    have hb0 : (0 : Int) < (n : Int) := by omega
    have hb1 : (0 : Int) ≤ (c' : Int) := by omega
    have hw1 : IntKind.i64.wrap (n : Int) = (n : Int) := by rw [IntKind.wrap_i64]; omega
    generalize w.drew.alloc (.cells cs 34) = W1 at *
    clear hge hcm hcs hsz
    go_enter Try.func66, Try.ntmps66
    go_wp2_with (at_builtin; refine wpList_append_runK _ rfl _ _ 39 3 rfl _ _ rfl rfl hap ?_)
    go_ret
    exact ⟨_, rfl, HP.out⟩
set_option maxRecDepth 100000 in
theorem concat_none (a : Option Addr) (c : Nat) (w : World) :
    Calls Try.prog 49 #[.slice a 0 c] w fun e w' => ∃ v, e = .returned v ∧ OwnK w' w.heap.size v [] ∧ Below w.heap.size w w' := by
  have CG := Lib.hid (fun W => grow_nil 0 (by omega) W)
  go_enter Try.func49, Try.ntmps49
  go_wp2_with fail
  go_loopw [3, 11] (fun s i wr => s = .int .i64 0 ∧ i = .int .i64 0 ∧ wr = w) (fun _ _ _ => 0)
  case atStart => exact ⟨rfl, rfl, rfl⟩
  case round =>
    obtain ⟨rfl, rfl, rfl⟩ := hrel
    go_wp2_with fail
    refine (CG.out _).mono ?_; rintro e w1 ⟨v, rfl, h1, h2⟩
    have HP := Lib.hid (And.intro h1 h2)
    clear h1 h2
    go_wp2_with fail
    go_loopw [6, 27] (fun s i wr => s = v ∧ i = .int .i64 0 ∧ wr = w1) (fun _ _ _ => 0)
    case atStart => exact ⟨rfl, rfl, rfl⟩
    case round =>
      obtain ⟨rfl, rfl, rfl⟩ := hrel
      go_wp2_with fail
      go_ret
      exact ⟨_, rfl, HP.out⟩
set_option maxRecDepth 100000 in
theorem concat_one (F : Nat → Prop) (ov : Value) (ks : List Ky) (w : World) (hne : ks ≠ []) (hm : ks.length ≤ 1000000) (hO : Ord w ov ks F) :
    Calls Try.prog 49 #[ov] w fun e w' => ∃ v, e = .returned v ∧ OwnK w' w.heap.size v ks ∧ Below w.heap.size w w' := by
  obtain ⟨i0, hi0, hz0, hz1, hz2⟩ := info_parts infoKey
  obtain ⟨ob, oc, pb, pc, rfl, hoc, hof, hP, hob, hpb, -, -, -⟩ := hO.first hne
  obtain ⟨n, hn⟩ : ∃ n, Hid (ks.length = n) := ⟨_, Lib.hid rfl⟩
  have h' : w.ownsRow 0 34 3 (.slice (some ⟨pb, 0, none⟩) n pc) n (ks.flatMap enc) := by rw [← hn.out]; exact hP
  obtain ⟨cur, a1, a2, a3, a4, a5, a6, -⟩ := row_of h'
  rw [hn.out] at hoc hm
  have CG := Lib.hid (fun W => grow_nil n hm W)
  have HC : Hid (∀ W, Below w.heap.size w W → W.cell? ⟨ob, 0, none⟩ = some (.slice (some ⟨pb, 0, none⟩) n pc) ∧ ∀ j u, (ks.flatMap enc)[j]? = some u → W.cell? ((⟨pb, 0, none⟩ : Addr).add j) = some u) := Lib.hid (fun W hW => by
    refine ⟨(hW.cell (p := ⟨ob, 0, none⟩) hob).trans hoc, fun j u hu => ?_⟩
    have hj := (List.getElem?_eq_some_iff.1 hu).1
    rw [Addr.add_lit, Nat.zero_add, (a1.below hW).cell, ← hu, ← a5, List.getElem?_take, if_pos (by omega), Array.getElem?_toList])
  have hcells : ∀ v ∈ ks.flatMap enc, v.oneCell' = true := fun v hv => by
    obtain ⟨y, _, hy⟩ := List.mem_flatMap.1 hv
    exact enc_one y v hy
  have hl := a6
  have hw1 : IntKind.i64.wrap (n : Int) = (n : Int) := by rw [IntKind.wrap_i64]; omega
  have hb1 : (0 : Int) ≤ (n : Int) := by omega
  have HQ : Hid (∀ w1 v2 w2, Below w.heap.size w w1 → w2.ownsRow w.heap.size 34 3 v2 (0 + n) ([].flatMap enc ++ ks.flatMap enc) → ∀ v1, OwnK w1 w.heap.size v1 [] → w1.grownBy w2 v1.ownBlock → OwnK w2 w.heap.size v2 ks ∧ Below w.heap.size w w2) := Lib.hid (fun w1 v2 w2 hB h2 v1 h3 h4 => by
    refine ⟨?_, hB.trans ?_⟩
    · unfold OwnK OwnS
      rw [hn.out]
      simpa using h2
    · have hk := World.ownsRow.lt h3
      exact ⟨h4.os, h4.tape, h4.output, h4.size, fun k hk' => h4.block k (by have := hB.size; omega) (fun e => by have := (hk k e.symm).1; omega)⟩)
  clear hO hP h' a1 a2 a3 a4 a5 a6
  go_enter Try.func49, Try.ntmps49
  go_wp2_with fail
  go_loopw [3, 11] (fun s i wr => wr = w ∧ ((s = .int .i64 0 ∧ i = .int .i64 0) ∨ (s = .int .i64 n ∧ i = .int .i64 1))) (fun _ i _ => (1 - intOf i).toNat)
  case atStart => exact ⟨rfl, .inl ⟨rfl, rfl⟩⟩
  case round =>
    obtain ⟨rfl, ⟨rfl, rfl⟩ | ⟨rfl, rfl⟩⟩ := hrel
    · go_wp2_with fail
      go_roundw
      case rel => exact ⟨trivial, .inr ⟨rfl, rfl⟩⟩
      case measure => simp [intOf]
    · go_wp2_with fail
      refine (CG.out _).mono ?_; rintro e w1 ⟨v, rfl, h1, hB1⟩
      obtain ⟨hc1, hs1⟩ := HC.out w1 hB1
      have HB1 := Lib.hid hB1
      have hsz := hB1.size
      have HS1 := Lib.hid hs1
      have HG1 : Hid (OwnK w1 wr.heap.size v [] ∧ Below wr.heap.size wr w1) := Lib.hid ⟨h1, hB1⟩
      clear hs1 hB1 hoc
      go_wp2_with fail
      go_loopw [6, 27] (fun s i w2 => (s = v ∧ i = .int .i64 0 ∧ w2 = w1) ∨ (i = .int .i64 1 ∧ Hid (OwnK w2 wr.heap.size s ks ∧ Below wr.heap.size wr w2))) (fun _ i _ => (1 - intOf i).toNat)
      case atStart => exact .inl ⟨rfl, rfl, rfl⟩
      case round =>
        obtain ⟨rfl, rfl, rfl⟩ | ⟨rfl, hp⟩ := hrel
        · go_wp2_with (at_builtin; refine Own.wpList_append2 _ rfl _ _ 39 rfl _ 34 i0 (.agg #[.int .i64 0, .int .i64 0, .int .u32 0]) 3 24 Try.underlying39 hi0 hz0 hz1 hz2 rfl (by decide) _ 0 _ rfl h1 ⟨pb, 0, none⟩ n pc (ks.flatMap enc) rfl hl HS1.out hcells (by unfold maxLen; omega) (by omega) hsz ?_; intro v2 w2 hown2 hgrow2 _ _)
          have HP := Lib.hid (HQ.out _ v2 w2 HB1.out hown2 _ h1 hgrow2)
          clear hown2 hgrow2
          go_roundw
          case rel => exact .inr ⟨rfl, HP⟩
          case measure => simp [intOf]
        · go_wp2_with fail
          go_ret
          exact ⟨_, rfl, hp.out⟩
end Go.Proofs.Ytolcidilnmjlmaa.Tbl
