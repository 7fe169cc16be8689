/- slices.Delete of one key out of a row of keys of one's own; of the only piece out of a row of pieces. -/
import Derived.Test.YtolcidilnmjlmaaTblD
namespace Go.Proofs.Ytolcidilnmjlmaa.Tbl
open Go.ChangeShapes Go.WideShapes Go.ChangeAt Go.RowKit
open Go.Proofs.Ytolcidilnmjlmaa.Key Go.Proofs.Ytolcidilnmjlmaa.Rw
set_option linter.unusedVariables false
theorem zeroKey (w : World) : (zeroValue 34).run Try.prog w = .ok (.agg #[.int .i64 0, .int .i64 0, .int .u32 0]) w := by kernel_rfl
set_option maxRecDepth 100000 in
theorem delete_any (g n cap i : Nat) (ks : List Ky) (w : World) (hn : ks.length = n) (hi : i < n) (hm : n ≤ 1000000) (h : OwnK w 0 (.slice (some ⟨g, 0, none⟩) n cap) ks) :
    Calls Try.prog 50 #[.slice (some ⟨g, 0, none⟩) n cap, .int .i64 i, .int .i64 ((i : Int) + 1)] w fun e w' => e = .returned (.slice (some ⟨g, 0, none⟩) (n - 1) cap) ∧ OwnK w' 0 (.slice (some ⟨g, 0, none⟩) (n - 1) cap) (delP ks i) ∧ w.grownBy w' (some g) := by
  obtain ⟨i0, hi0, hz0, hz1, hz2⟩ := info_parts infoKey
  have h' : w.ownsRow 0 34 3 (.slice (some ⟨g, 0, none⟩) n cap) n (ks.flatMap enc) := by rw [← hn]; rw [← hn] at h; exact h
  obtain ⟨cur, a1, a2, a3, a4, a5, a6, -⟩ := row_of h'
  have hcl : cur.toList.length = cap * 3 := by simpa using a4
  have hd : ((ks.drop (i + 1)).flatMap enc).length = (n - (i + 1)) * 3 := by rw [flat_len3, List.length_drop, hn]
  have hcells : ∀ v ∈ ks.flatMap enc, v.oneCell' = true := fun v hv => by
    obtain ⟨y, _, hy⟩ := List.mem_flatMap.1 hv
    exact enc_one y v hy
  obtain ⟨A, hA, hsrc⟩ : ∃ A : Addr, (if cap = i + 1 then (some (⟨g, 0, none⟩ : Addr)) else some ⟨g, (i + 1) * 3, none⟩) = some A ∧ ∀ j u, ((ks.drop (i + 1)).flatMap enc)[j]? = some u → w.drew.cell? (A.add j) = some u := by
    by_cases hc : cap = i + 1
    · refine ⟨⟨g, 0, none⟩, by simp [hc], fun j u hu => ?_⟩
      have := (List.getElem?_eq_some_iff.1 hu).1
      omega
    · refine ⟨⟨g, (i + 1) * 3, none⟩, by simp [hc], fun j u hu => ?_⟩
      have hj2 := (List.getElem?_eq_some_iff.1 hu).1
      rw [Addr.add_lit]
      show w.cell? _ = _
      rw [a1.cell, ← hu, ← flat_drop, List.getElem?_drop, ← a5, List.getElem?_take, if_pos (by omega), Array.getElem?_toList]
  have hap : ∀ ty c2, (Builtin.append_ #[39, 39] ty #[.slice (some ⟨g, 0, none⟩) i cap, .slice (if cap = i + 1 then (some (⟨g, 0, none⟩ : Addr)) else some ⟨g, (i + 1) * 3, none⟩) (n - (i + 1)) c2]).run Try.prog w.drew =
      .ok (.slice (some ⟨g, 0, none⟩) (n - 1) cap) (w.drew.setRow g (cur.toList.take (i * 3) ++ (ks.drop (i + 1)).flatMap enc ++ cur.toList.drop (i * 3 + ((ks.drop (i + 1)).flatMap enc).length)).toArray) := fun ty c2 => by
    have hr := run_append_room (P := Try.prog) w.drew 39 ty 34 i0 Try.underlying39 hi0 g i cap cur a1 A (n - (i + 1)) c2 ((ks.drop (i + 1)).flatMap enc) (by rw [hz1]; exact hd) hsrc (fun v hv => by rw [← flat_drop] at hv; exact hcells v (List.mem_of_mem_drop hv)) (by omega) (by rw [hz1, hd]; omega)
    rw [hz1, show i + (n - (i + 1)) = n - 1 by omega] at hr
    rw [hA]
    exact hr
  obtain ⟨c1, hc1⟩ : ∃ c1, c1 = cur.toList.take (i * 3) ++ (ks.drop (i + 1)).flatMap enc ++ cur.toList.drop (i * 3 + ((ks.drop (i + 1)).flatMap enc).length) := ⟨_, rfl⟩
  rw [← hc1] at hap
  have hl1 : c1.length = cap * 3 := by rw [hc1]; simp only [List.length_append, List.length_take, List.length_drop, hd, hcl]; omega
  have a1' : Blk (w.drew.setRow g c1.toArray) g 34 c1.toArray := Blk.setRow (w := w.drew) a1 _
  obtain ⟨W1, hW1⟩ : ∃ W1, Hid (W1 = w.drew.setRow g c1.toArray) := ⟨_, Lib.hid rfl⟩
  rw [← hW1.out] at hap a1'
  have hg1 : w.grownBy W1 (some g) := by rw [hW1.out]; exact (⟨rfl, rfl, rfl, Nat.le_refl _, fun _ _ _ => rfl⟩ : w.grownBy w.drew (some g)).trans (setRow_grown w.drew g _)
  have hcz : ∀ ty c2, ∃ cs : List Value, cs.length = 1 * 3 ∧ (Builtin.clear_ #[39] ty #[.slice (some ⟨g, (n - 1) * 3, none⟩) 1 c2]).run Try.prog W1 = .ok (.tuple #[]) (W1.setRow g (c1.toArray.toList.take ((n - 1) * 3) ++ cs ++ c1.toArray.toList.drop ((n - 1) * 3 + cs.length)).toArray) := fun ty c2 =>
    run_clear_rowK W1 39 ty 34 (.agg #[.int .i64 0, .int .i64 0, .int .u32 0]) g ((n - 1) * 3) 1 c2 c1.toArray 34 Try.underlying39 zeroKey (by intro v hv; simp [Value.cells] at hv; rcases hv with rfl | rfl <;> rfl) (by decide) a1' (by decide) (by simp only [List.size_toArray, hl1]; simp [Value.cells]; omega)
  have HP : Hid (∀ cs : List Value, cs.length = 1 * 3 → OwnK (W1.setRow g (c1.toArray.toList.take ((n - 1) * 3) ++ cs ++ c1.toArray.toList.drop ((n - 1) * 3 + cs.length)).toArray) 0 (.slice (some ⟨g, 0, none⟩) (n - 1) cap) (delP ks i) ∧ w.grownBy (W1.setRow g (c1.toArray.toList.take ((n - 1) * 3) ++ cs ++ c1.toArray.toList.drop ((n - 1) * 3 + cs.length)).toArray) (some g)) := Lib.hid (fun cs hcs => by
    refine ⟨?_, hg1.trans (setRow_grown _ g _)⟩
    have hrow := Blk.setRow a1' (c1.toArray.toList.take ((n - 1) * 3) ++ cs ++ c1.toArray.toList.drop ((n - 1) * 3 + cs.length)).toArray
    unfold OwnK OwnS
    rw [delP_len (by omega), hn]
    refine of_row hrow (Nat.zero_le _) (by omega) a3 ?_ ?_
    · simp only [List.size_toArray, List.length_append, List.length_take, List.length_drop, hl1, hcs]; omega
    · rw [List.toList_toArray, List.toList_toArray]
      have f0 : (c1.take ((n - 1) * 3)).length = (n - 1) * 3 := by rw [List.length_take, hl1]; omega
      rw [List.append_assoc, List.take_append_of_le_length (by rw [f0]; exact Nat.le_refl _), List.take_take, Nat.min_self]
      have f1 : c1 = (ks.take i).flatMap enc ++ (ks.drop (i + 1)).flatMap enc ++ cur.toList.drop (i * 3 + ((ks.drop (i + 1)).flatMap enc).length) := by
        rw [hc1]
        congr 2
        rw [← flat_take, ← a5, List.take_take, Nat.min_eq_left (by omega)]
      have f2 : ((ks.take i).flatMap enc ++ (ks.drop (i + 1)).flatMap enc).length = (n - 1) * 3 := by rw [List.length_append, hd, flat_len3, List.length_take, hn]; omega
      rw [f1, ← f2, List.take_left]
      unfold delP
      rw [flat_app])
  clear h h' a1 a4 a5 a6 hcl hd hcells hsrc hc1 hl1 a1' hg1 hA
  have hw1 : IntKind.i64.wrap ((i : Int) + 1) = (i : Int) + 1 := by rw [IntKind.wrap_i64]; omega
  have hcm : cap ≤ 9223372036854775807 := by unfold maxLen at a3; omega
  have hb1 : (0 : Int) ≤ (i : Int) + 1 := by omega
  have htn : ((i : Int) + 1).toNat = i + 1 := by omega
  have hb3 : (i : Int) + 1 ≤ (cap : Int) := by omega
  have hb4 : (i : Int) + 1 ≤ (n : Int) := by omega
  have hb5 : i + 1 ≤ n := by omega
  have hb6 : i ≤ n := by omega
  have hb7 : i ≤ cap := by omega
  have hb8 : ¬ ((i : Int) = (i : Int) + 1) := by omega
  have hb9 : n - 1 ≤ n := by omega
  have hb10 : ¬ (cap = n - 1) := by omega
  have hb11 : n - (n - 1) = 1 := by omega
  have HZ : ∀ ty c2, ∃ W9, (Builtin.clear_ #[39] ty #[.slice (some ⟨g, (n - 1) * 3, none⟩) 1 c2]).run Try.prog W1 = .ok (.tuple #[]) W9 ∧ OwnK W9 0 (.slice (some ⟨g, 0, none⟩) (n - 1) cap) (delP ks i) ∧ w.grownBy W9 (some g) := fun ty c2 => by
    obtain ⟨cs, hcs, hr⟩ := hcz ty c2
    exact ⟨_, hr, HP.out cs hcs⟩
  clear hcz HP
  by_cases hc : cap = i + 1
  · subst hc
    obtain rfl : n = i + 1 := by omega
    simp only [if_true, Nat.sub_self, Nat.add_sub_cancel] at hap HZ ⊢
    have hb12 : (i : Int) ≤ (i : Int) + 1 := by omega
    have hap2 := hap 39 0
    go_enter Try.func50, Try.ntmps50
    go_wp2_with fail
    go_region_law (refine step_append_runK rfl _ _ 39 39 rfl _ _ ?_ ?_ hap2 ?_; (focus (simp [Act.eval, Act.put])); (focus (simp [Act.eval, Act.put])))
    obtain ⟨W9, hcr, hpost⟩ := HZ 0 1
    go_wp2_with (at_builtin; refine wpList_clear_runK _ rfl _ 39 rfl _ rfl hcr ?_)
    go_ret
    exact ⟨rfl, hpost⟩
  · simp only [hc, if_false] at hap
    have hap2 := hap 39 (cap - (i + 1))
    go_enter Try.func50, Try.ntmps50
    go_wp2_with fail
    go_region_law (refine step_append_runK rfl _ _ 39 39 rfl _ _ ?_ ?_ hap2 ?_; (focus (simp [Act.eval, Act.put])); (focus (simp [Act.eval, Act.put])))
    obtain ⟨W9, hcr, hpost⟩ := HZ 0 (cap - (n - 1))
    go_wp2_with (at_builtin; refine wpList_clear_runK _ rfl _ 39 rfl _ rfl hcr ?_)
    go_ret
    exact ⟨rfl, hpost⟩
theorem zeroPiece (w : World) : (zeroValue 39).run Try.prog w = .ok (.slice none 0 0) w := by kernel_rfl
set_option maxRecDepth 100000 in
theorem delpiece_any (ob oc : Nat) (pv : Value) (w : World) (h : w.ownsRow 0 39 1 (.slice (some ⟨ob, 0, none⟩) 1 oc) 1 [pv]) :
    Calls Try.prog 51 #[.slice (some ⟨ob, 0, none⟩) 1 oc, .int .i64 0, .int .i64 1] w fun e w' => e = .returned (.slice (some ⟨ob, 0, none⟩) 0 oc) ∧ w.grownBy w' (some ob) := by
  obtain ⟨cur, a1, a2, a3, a4, a5, a6, -⟩ := row_of h
  have hcz : ∀ ty c2, ∃ W9, (Builtin.clear_ #[59] ty #[.slice (some ⟨ob, 0, none⟩) 1 c2]).run Try.prog w.drew = .ok (.tuple #[]) W9 ∧ w.grownBy W9 (some ob) := fun ty c2 => by
    obtain ⟨cs, hcs, hr⟩ := run_clear_rowK (P := Try.prog) w.drew 59 ty 39 (.slice none 0 0) ob 0 1 c2 cur 39 Try.underlying59 zeroPiece (by intro v hv; simp [Value.cells] at hv; subst hv; rfl) (by decide) a1 (by decide) (by simp [Value.cells]; omega)
    exact ⟨_, hr, (⟨rfl, rfl, rfl, Nat.le_refl _, fun _ _ _ => rfl⟩ : w.grownBy w.drew (some ob)).trans (setRow_grown w.drew ob _)⟩
  obtain ⟨W9, hcr, hpost⟩ := hcz 0 oc
  have hcm : oc ≤ 9223372036854775807 := by unfold maxLen at a3; omega
  have hb1 : (1 : Int) ≤ (oc : Int) := by omega
  have hb2 : ¬ (oc = 0) := by omega
  have hb3 : 1 ≤ oc := a2
  have hb4 : (0 : Int) ≤ (oc : Int) := by omega
  clear h a1 a4 a5 a6 hcz
  by_cases hc : oc = 1
  · subst hc
    go_enter Try.func51, Try.ntmps51
    go_wp2_with fail
    go_region
    go_wp2_with (at_builtin; refine wpList_clear_runK _ rfl _ 59 rfl _ rfl hcr ?_)
    go_ret
    exact ⟨rfl, hpost⟩
  · go_enter Try.func51, Try.ntmps51
    go_wp2_with fail
    go_region
    go_wp2_with (at_builtin; refine wpList_clear_runK _ rfl _ 59 rfl _ rfl hcr ?_)
    go_ret
    exact ⟨rfl, hpost⟩
end Go.Proofs.Ytolcidilnmjlmaa.Tbl
