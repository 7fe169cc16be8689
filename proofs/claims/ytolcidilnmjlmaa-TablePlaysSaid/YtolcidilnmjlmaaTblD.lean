/- slices.Insert of one key into a row of keys of one's own. -/
import Derived.Test.YtolcidilnmjlmaaTblB
import Derived.Laws.Externs
import Derived.Shelf.RegionOpenPlain
namespace Go.Proofs.Ytolcidilnmjlmaa.Tbl
open Go.ChangeShapes Go.WideShapes Go.ChangeAt Go.RowKit
open Go.Proofs.Ytolcidilnmjlmaa.Key Go.Proofs.Ytolcidilnmjlmaa.Rw
set_option linter.unusedVariables false
def InsPost (g n : Nat) (ks : List Ky) (w : World) (e : Ending) (w' : World) : Prop :=
  ∃ g' cap', e = .returned (.slice (some ⟨g', 0, none⟩) (n + 1) cap') ∧ OwnK w' 0 (.slice (some ⟨g', 0, none⟩) (n + 1) cap') ks ∧ w.grownBy w' (some g) ∧ (g' = g ∨ w.heap.size ≤ g')
theorem flat_app (a b : List Ky) : (a ++ b).flatMap enc = a.flatMap enc ++ b.flatMap enc := List.flatMap_append
theorem flat_take (ks : List Ky) (i : Nat) : (ks.flatMap enc).take (i * 3) = (ks.take i).flatMap enc := by
  induction ks generalizing i with
  | nil => simp
  | cons a ks ih =>
    cases i with
    | zero => simp
    | succ i =>
      rw [List.flatMap_cons, List.take_append, List.take_succ_cons, List.flatMap_cons, enc_len]
      rw [List.take_of_length_le (by rw [enc_len]; omega), show (i + 1) * 3 - 3 = i * 3 by omega, ih]
theorem flat_drop (ks : List Ky) (i : Nat) : (ks.flatMap enc).drop (i * 3) = (ks.drop i).flatMap enc := by
  induction ks generalizing i with
  | nil => simp
  | cons a ks ih =>
    cases i with
    | zero => simp
    | succ i =>
      rw [List.flatMap_cons, List.drop_append, List.drop_succ_cons, enc_len, List.drop_of_length_le (by rw [enc_len]; omega), show (i + 1) * 3 - 3 = i * 3 by omega, ih]
      rfl
theorem flat_len3 (ks : List Ky) : (ks.flatMap enc).length = ks.length * 3 := flat_len enc_len ks
set_option maxRecDepth 100000 in
theorem insert_end (g n cap : Nat) (ks : List Ky) (x : Ky) (w : World) (hn : ks.length = n) (hm : n ≤ 1000000) (h : OwnK w 0 (.slice (some ⟨g, 0, none⟩) n cap) ks) (vb : Nat)
    (hv : Blk w vb 34 #[.int .i64 x.1, .int .i64 x.2.1, .int .u32 x.2.2]) :
    Calls Try.prog 47 #[.slice (some ⟨g, 0, none⟩) n cap, .int .i64 n, .slice (some ⟨vb, 0, none⟩) 1 1] w (InsPost g n (ks ++ [x]) w) := by
  obtain ⟨i0, hi, hz0, hz1, hz2⟩ := info_parts infoKey
  have hc := h.pos.1
  have hcm := h.pos.2.1
  have hpos := h.pos.2.2
  rw [hn] at hc
  have h' : w.ownsRow 0 34 3 (.slice (some ⟨g, 0, none⟩) n cap) n (ks.flatMap enc) := by rw [← hn]; rw [← hn] at h; exact h
  have HS : Hid (∀ j u, (enc x)[j]? = some u → w.cell? ((⟨vb, 0, none⟩ : Addr).add j) = some u) := Lib.hid (fun j u hu => by
    rw [Addr.add_lit, Nat.zero_add, hv.cell j]
    have : (#[Value.int .i64 x.1, .int .i64 x.2.1, .int .u32 x.2.2] : Array Value)[j]? = (enc x)[j]? := by simp [enc]
    rw [this]; exact hu)
  have HP : Hid (∀ v2 w2, w2.ownsRow 0 34 3 v2 (n + 1) (ks.flatMap enc ++ enc x) → w.grownBy w2 (some g) → ((v2.ownBlock = some g) ∨ ∀ k, v2.ownBlock = some k → w.heap.size ≤ k) → InsPost g n (ks ++ [x]) w (.returned v2) w2) := Lib.hid (fun v2 w2 h2 h3 h4 => by
    rcases h2.2 with ⟨_, h0⟩ | ⟨g', cap', cur, rfl, _⟩
    · omega
    · refine ⟨g', cap', rfl, ?_, h3, ?_⟩
      · unfold OwnK OwnS
        rw [List.length_append, hn, flat_app]
        simpa using h2
      · rcases h4 with h4 | h4
        · simp [Value.ownBlock] at h4; exact .inl h4
        · exact .inr (h4 g' rfl))
  have hcap : cap ≤ 9223372036854775807 := by unfold maxLen at hcm; omega
  clear h hv hcm hpos hn
  go_enter Try.func47, Try.ntmps47
  go_wp2_with (at_builtin; refine Own.wpList_append2 _ rfl _ _ 39 rfl 0 34 i0 (.agg #[.int .i64 0, .int .i64 0, .int .u32 0]) 3 24 Try.underlying39 hi hz0 hz1 hz2 rfl (by decide) _ _ _ rfl h' ⟨vb, 0, none⟩ 1 1 (enc x) rfl rfl HS.out (enc_one _) (by unfold maxLen; omega) (by omega) (Nat.zero_le _) ?_; intro v2 w2 hown2 hgrow2 _ hw2)
  all_goals (have HPP := HP.out v2 w2 hown2 hgrow2 hw2; clear hown2 hgrow2 hw2 HP; go_ret; exact HPP)
theorem sizeKey : (Try.prog.info? 34).map (·.size) = some 3 := by kernel_rfl
theorem overlaps_no (w : World) (vb g c1 l2 c2 o2 : Nat) (hne : vb ≠ g) (cs cur : Array Value) (hv : Blk w vb 34 cs) (hg : Blk w g 34 cur) (hc : cur.size ≠ 0) (hcs : cs.size ≠ 0) :
    (callFunc 62 #[.slice (some ⟨vb, 0, none⟩) 1 c1, .slice (some ⟨g, o2, none⟩) l2 c2]).run Try.prog w = .ok (.value (.bool false)) w := by
  rw [run_callFunc_extern Try.func62 (by kernel_rfl) (by kernel_rfl) (by kernel_rfl) (e := Extern.SlicesOverlaps.overlaps #[39, 39] #[4]) (by kernel_rfl),
    Lib.run_overlaps_apart w 39 4 34 Try.underlying39 3 Try.sizeOf34 ⟨vb, 0, none⟩ ⟨g, o2, none⟩ 1 c1 l2 c2 hne 34 34 cs.size cur.size (by simp [World.shape?, show w.heap[vb]? = _ from hv]) (by simp [World.shape?, show w.heap[g]? = _ from hg]) hc (hv.free 0) (hv.free _)]
  rfl
theorem shifted (cur : Array Value) (ks : List Ky) (x : Ky) (n cap i : Nat) (hn : ks.length = n) (hs : cur.size = cap * 3) (ht : cur.toList.take (n * 3) = ks.flatMap enc) (hi : i < n) (hc : n + 1 ≤ cap) :
    let c1 := cur.toList.take ((i + 1) * 3) ++ (ks.drop i).flatMap enc ++ cur.toList.drop ((i + 1) * 3 + ((ks.drop i).flatMap enc).length)
    let c2 := c1.take (i * 3) ++ enc x ++ c1.drop (i * 3 + (enc x).length)
    c2.length = cap * 3 ∧ c2.take ((n + 1) * 3) = (ks.take i ++ x :: ks.drop i).flatMap enc := by
  intro c1 c2
  have hd : ((ks.drop i).flatMap enc).length = (n - i) * 3 := by rw [flat_len3, List.length_drop, hn]
  have hcl : cur.toList.length = cap * 3 := by simpa using hs
  have e0 : c1.length = cap * 3 := by simp only [c1, List.length_append, List.length_take, List.length_drop, hd, hcl]; omega
  have e1 : c1.take (i * 3) = (ks.take i).flatMap enc := by
    simp only [c1]
    rw [List.append_assoc, List.take_append_of_le_length (by rw [List.length_take, hcl]; omega), List.take_take, show min (i * 3) ((i + 1) * 3) = min (i * 3) (n * 3) by omega, ← List.take_take, ht, flat_take]
  have e2 : c1.drop (i * 3 + 3) = (ks.drop i).flatMap enc ++ cur.toList.drop ((i + 1) * 3 + (n - i) * 3) := by
    simp only [c1]
    rw [List.append_assoc, List.drop_append, List.drop_of_length_le (by rw [List.length_take, hcl]; omega), List.length_take, hcl, show i * 3 + 3 - min ((i + 1) * 3) (cap * 3) = 0 by omega, hd]
    simp
  have e3 : c2 = (ks.take i).flatMap enc ++ (enc x ++ ((ks.drop i).flatMap enc ++ cur.toList.drop ((i + 1) * 3 + (n - i) * 3))) := by
    simp only [c2]
    rw [e1, enc_len, e2, List.append_assoc]
  have hl : ((ks.take i ++ x :: ks.drop i).flatMap enc).length = (n + 1) * 3 := by rw [flat_len3]; simp; omega
  refine ⟨?_, ?_⟩
  · simp only [c2, List.length_append, List.length_take, List.length_drop, e0, enc_len]; omega
  · have e4 : c2 = (ks.take i ++ x :: ks.drop i).flatMap enc ++ cur.toList.drop ((i + 1) * 3 + (n - i) * 3) := by
      rw [e3, flat_app, List.flatMap_cons]; simp only [List.append_assoc]
    rw [e4, ← hl, List.take_left]
set_option maxRecDepth 100000 in
theorem insert_shift (g n cap i : Nat) (ks : List Ky) (x : Ky) (w : World) (hn : ks.length = n) (hi : i < n) (hroom : n + 1 ≤ cap) (hm : n ≤ 1000000) (h : OwnK w 0 (.slice (some ⟨g, 0, none⟩) n cap) ks) (vb : Nat)
    (hv : Blk w vb 34 #[.int .i64 x.1, .int .i64 x.2.1, .int .u32 x.2.2]) (hne : vb ≠ g) :
    Calls Try.prog 47 #[.slice (some ⟨g, 0, none⟩) n cap, .int .i64 i, .slice (some ⟨vb, 0, none⟩) 1 1] w (InsPost g n (ks.take i ++ x :: ks.drop i) w) := by
  have h' : w.ownsRow 0 34 3 (.slice (some ⟨g, 0, none⟩) n cap) n (ks.flatMap enc) := by rw [← hn]; rw [← hn] at h; exact h
  obtain ⟨cur, a1, a2, a3, a4, a5, a6, -⟩ := row_of h'
  have hsh := shifted cur ks x n cap i hn a4 a5 hi hroom
  simp only at hsh
  have hd : ((ks.drop i).flatMap enc).length = (n - i) * 3 := by rw [flat_len3, List.length_drop, hn]
  have hcl : cur.toList.length = cap * 3 := by simpa using a4
  have hov : ∀ o2 l2 c2, (callFunc 62 #[.slice (some ⟨vb, 0, none⟩) 1 1, .slice (some ⟨g, o2, none⟩) l2 c2]).run Try.prog w = .ok (.value (.bool false)) w := fun o2 l2 c2 => overlaps_no w vb g 1 l2 c2 o2 hne _ cur hv a1 (by omega) (by simp)
  have hcells : ∀ v ∈ ks.flatMap enc, v.oneCell' = true := fun v hv => by
    obtain ⟨y, _, hy⟩ := List.mem_flatMap.1 hv
    exact enc_one y v hy
  have hcp1 : ∀ ty dc sc, (Builtin.copy_ #[39, 39] ty #[.slice (some ⟨g, (i + 1) * 3, none⟩) (n - i) dc, .slice (some ⟨g, i * 3, none⟩) (n + 1 - i) sc]).run Try.prog w.drew = .ok (goInt (n - i : Nat)) (w.drew.setRow g (cur.toList.take ((i + 1) * 3) ++ (ks.drop i).flatMap enc ++ cur.toList.drop ((i + 1) * 3 + ((ks.drop i).flatMap enc).length)).toArray) := fun ty dc sc =>
    run_copy_rowK w.drew _ _ ty 34 3 g ((i + 1) * 3) (n - i) dc ⟨g, i * 3, none⟩ (n + 1 - i) sc (n - i) cur 34 ((ks.drop i).flatMap enc) Try.underlying39 sizeKey a1 (by simp only [Nat.min_def]; split <;> omega) hd
      (fun j v hj => by
        rw [Addr.add_lit]
        have hj2 := (List.getElem?_eq_some_iff.1 hj).1
        rw [hd] at hj2
        show w.cell? _ = _
        rw [a1.cell, ← hj, ← flat_drop, List.getElem?_drop, ← a5, List.getElem?_take, if_pos (by omega), Array.getElem?_toList])
      (by rw [hd]; omega) (fun v hv => by rw [← flat_drop] at hv; exact hcells v (List.mem_of_mem_drop hv))
  obtain ⟨c1, hc1⟩ : ∃ c1, c1 = cur.toList.take ((i + 1) * 3) ++ (ks.drop i).flatMap enc ++ cur.toList.drop ((i + 1) * 3 + ((ks.drop i).flatMap enc).length) := ⟨_, rfl⟩
  rw [← hc1] at hcp1 hsh
  have hl1 : c1.length = cap * 3 := by rw [hc1]; simp only [List.length_append, List.length_take, List.length_drop, hd, hcl]; omega
  have a1' : Blk (w.drew.setRow g c1.toArray) g 34 c1.toArray := Blk.setRow (w := w.drew) a1 _
  have hv' : Blk (w.drew.setRow g c1.toArray) vb 34 #[.int .i64 x.1, .int .i64 x.2.1, .int .u32 x.2.2] := Blk.grown (w := w.drew) hv (setRow_grown w.drew g _) (by simpa using hne)
  have hcp2 : ∀ ty dc, (Builtin.copy_ #[39, 39] ty #[.slice (some ⟨g, i * 3, none⟩) (n + 1 - i) dc, .slice (some ⟨vb, 0, none⟩) 1 1]).run Try.prog (w.drew.setRow g c1.toArray) = .ok (goInt (1 : Nat)) ((w.drew.setRow g c1.toArray).setRow g (c1.toArray.toList.take (i * 3) ++ enc x ++ c1.toArray.toList.drop (i * 3 + (enc x).length)).toArray) := fun ty dc =>
    run_copy_rowK _ _ _ ty 34 3 g (i * 3) (n + 1 - i) dc ⟨vb, 0, none⟩ 1 1 1 c1.toArray 34 (enc x) Try.underlying39 sizeKey a1' (by simp only [Nat.min_def]; split <;> omega) rfl
      (fun j v hj => by rw [Addr.add_lit, Nat.zero_add, hv'.cell j, ← hj]; simp [enc]) (by rw [enc_len, List.size_toArray, hl1]; omega) (enc_one x)
  obtain ⟨W1, hW1⟩ : ∃ W1, Hid (W1 = w.drew.setRow g c1.toArray) := ⟨_, Lib.hid rfl⟩
  have HP : Hid (InsPost g n (ks.take i ++ x :: ks.drop i) w (.returned (.slice (some ⟨g, 0, none⟩) (n + 1) cap)) (W1.setRow g (c1.toArray.toList.take (i * 3) ++ enc x ++ c1.toArray.toList.drop (i * 3 + (enc x).length)).toArray)) := Lib.hid (by
    rw [hW1.out]
    have hrow := Blk.setRow a1' (c1.toArray.toList.take (i * 3) ++ enc x ++ c1.toArray.toList.drop (i * 3 + (enc x).length)).toArray
    refine ⟨g, cap, rfl, ?_, ?_, .inl rfl⟩
    · unfold OwnK OwnS
      have hlen : (ks.take i ++ x :: ks.drop i).length = n + 1 := by simp; omega
      rw [hlen]
      refine of_row hrow (Nat.zero_le _) hroom a3 ?_ ?_
      · rw [List.size_toArray, List.toList_toArray]; exact hsh.1
      · rw [List.toList_toArray, List.toList_toArray]; exact hsh.2
    · exact World.grownBy.trans ((⟨rfl, rfl, rfl, Nat.le_refl _, fun _ _ _ => rfl⟩ : w.grownBy w.drew (some g)).trans (setRow_grown w.drew g _)) (setRow_grown _ g _))
  rw [← hW1.out] at hcp1 hcp2
  generalize (c1.toArray.toList.take (i * 3) ++ enc x ++ c1.toArray.toList.drop (i * 3 + (enc x).length)).toArray = c2 at *
  have hcapm : cap ≤ 9223372036854775807 := by unfold maxLen at a3; omega
  clear h h' hsh a1 a1' hv hv' hc1 hl1 hd hcl hcells a4 a5 a6 hn hne
  go_enter Try.func47, Try.ntmps47
  have hw1 : IntKind.i64.wrap ((i : Int) + 1) = (i : Int) + 1 := by rw [IntKind.wrap_i64]; omega
  have hb1 : (0 : Int) ≤ (i : Int) + 1 := by omega
  have htn : ((i : Int) + 1).toNat = i + 1 := by omega
  have hb2 : ¬ (cap = i + 1) := by omega
  have hb3 : (i : Int) ≤ (n : Int) + 1 := by omega
  have hb4 : ¬ (cap = i) := by omega
  have hb5 : i ≤ n := by omega
  go_wp2_with (simp only [hov])
  go_region_law (refine step_copy_runK rfl _ _ 39 39 rfl _ _ (by simp [Act.eval, Act.put]) (by simp [Act.eval, Act.put]) (hcp1 _ _ _) ?_)
  go_wp2_with (at_builtin; refine wpList_copy_runK _ rfl _ _ 39 39 rfl _ _ rfl rfl (hcp2 _ _) ?_)
  go_ret
  exact HP.out
set_option maxRecDepth 100000 in
theorem insert_grow (g n cap i : Nat) (ks : List Ky) (x : Ky) (w : World) (hn : ks.length = n) (hi : i < n) (hroom : cap = n) (hm : n ≤ 1000000) (h : OwnK w 0 (.slice (some ⟨g, 0, none⟩) n cap) ks) (vb : Nat)
    (hv : Blk w vb 34 #[.int .i64 x.1, .int .i64 x.2.1, .int .u32 x.2.2]) :
    Calls Try.prog 47 #[.slice (some ⟨g, 0, none⟩) n cap, .int .i64 i, .slice (some ⟨vb, 0, none⟩) 1 1] w (InsPost g n (ks.take i ++ x :: ks.drop i) w) := by
  subst hroom
  obtain ⟨i0, hi0, hz0, hz1, hz2⟩ := info_parts infoKey
  have h' : w.ownsRow 0 34 3 (.slice (some ⟨g, 0, none⟩) cap cap) cap (ks.flatMap enc) := by have h2 := h; unfold OwnK OwnS at h2; rw [hn] at h2; exact h2
  obtain ⟨cur, a1, a2, a3, a4, a5, a6, -⟩ := row_of h'
  have hcl : cur.toList.length = cap * 3 := by simpa using a4
  have hcur : cur.toList = ks.flatMap enc := by rw [← a5, List.take_of_length_le (by omega)]
  have hd : ((ks.drop i).flatMap enc).length = (cap - i) * 3 := by rw [flat_len3, List.length_drop, hn]
  have htk : ((ks.take i).flatMap enc).length = i * 3 := by rw [flat_len3, List.length_take, hn, Nat.min_eq_left (by omega)]
  obtain ⟨c', hc1, hc2, rest, hrest, zs, hzs, hap⟩ := run_append_make (P := Try.prog) w 39 3 39 34 i0 (.agg #[.int .i64 0, .int .i64 0, .int .u32 0]) .i64 .i64 Try.underlying39 Try.underlying3 hi0 hz0 (by rw [hz1]; rfl) ⟨g, 0, none⟩ i cap (cap + 1 - i) ((ks.take i).flatMap enc) (by rw [hz1, htk])
    (fun j u hj => by
      rw [Addr.add_lit, Nat.zero_add, a1.cell, ← hj, ← flat_take, ← hcur, List.getElem?_take, if_pos (by have := (List.getElem?_eq_some_iff.1 hj).1; omega), Array.getElem?_toList]) (by rw [hz1]; decide) (by omega) (by omega) (by unfold maxLen; omega) (by rw [hz2]; omega)
  rw [hz1] at hrest hzs
  have e1 : i + (cap + 1 - i) = cap + 1 := by omega
  have e2 : ((cap + 1 - i : Nat) : Int) = (cap : Int) + 1 - (i : Int) := by omega
  rw [e1] at hap hc1 hrest
  rw [e2] at hap
  obtain ⟨c0, hc0⟩ : ∃ c0, c0 = (ks.take i).flatMap enc ++ zs ++ rest := ⟨_, rfl⟩
  rw [← hc0] at hap
  have hl0 : c0.length = c' * 3 := by rw [hc0]; simp only [List.length_append, htk, hzs, hrest]; omega
  have b1 : Blk (w.drew.alloc (.cells c0.toArray 34)) w.heap.size 34 c0.toArray := Blk.new w.drew _ _
  have bv : Blk (w.drew.alloc (.cells c0.toArray 34)) vb 34 #[.int .i64 x.1, .int .i64 x.2.1, .int .u32 x.2.2] := Blk.alloc (w := w.drew) hv _
  have bg : Blk (w.drew.alloc (.cells c0.toArray 34)) g 34 cur := Blk.alloc (w := w.drew) a1 _
  have hgl := a1.lt
  have hvl := hv.lt
  have hgr0 : w.grownBy (w.drew.alloc (.cells c0.toArray 34)) (some g) := (⟨rfl, rfl, rfl, Nat.le_refl _, fun _ _ _ => rfl⟩ : w.grownBy w.drew (some g)).trans (World.grownBy_alloc _ _ _)
  obtain ⟨W1, hW1⟩ : ∃ W1, Hid (W1 = w.drew.alloc (.cells c0.toArray 34)) := ⟨_, Lib.hid rfl⟩
  rw [← hW1.out] at b1 bv bg hap hgr0
  have hsz1 : W1.heap.size = w.heap.size + 1 := by rw [hW1.out, World.size_alloc]; rfl
  have hcp1 : ∀ ty dc, (Builtin.copy_ #[39, 39] ty #[.slice (some ⟨w.heap.size, i * 3, none⟩) (cap + 1 - i) dc, .slice (some ⟨vb, 0, none⟩) 1 1]).run Try.prog W1 = .ok (goInt (1 : Nat)) (W1.setRow w.heap.size (c0.toArray.toList.take (i * 3) ++ enc x ++ c0.toArray.toList.drop (i * 3 + (enc x).length)).toArray) := fun ty dc =>
    run_copy_rowK _ _ _ ty 34 3 w.heap.size (i * 3) (cap + 1 - i) dc ⟨vb, 0, none⟩ 1 1 1 c0.toArray 34 (enc x) Try.underlying39 sizeKey b1 (by simp only [Nat.min_def]; split <;> omega) rfl
      (fun j v hj => by rw [Addr.add_lit, Nat.zero_add, bv.cell j, ← hj]; simp [enc]) (by rw [enc_len, List.size_toArray, hl0]; omega) (enc_one x)
  obtain ⟨c1, hc1e⟩ : ∃ c1, c1 = c0.toArray.toList.take (i * 3) ++ enc x ++ c0.toArray.toList.drop (i * 3 + (enc x).length) := ⟨_, rfl⟩
  rw [← hc1e] at hcp1
  have hl1 : c1.length = c' * 3 := by rw [hc1e, List.toList_toArray]; simp only [List.length_append, List.length_take, List.length_drop, hl0, enc_len]; omega
  have b2 : Blk (W1.setRow w.heap.size c1.toArray) w.heap.size 34 c1.toArray := Blk.setRow b1 _
  have bg2 : Blk (W1.setRow w.heap.size c1.toArray) g 34 cur := bg.grown (setRow_grown W1 w.heap.size _) (by simp; omega)
  obtain ⟨W2, hW2⟩ : ∃ W2, Hid (W2 = W1.setRow w.heap.size c1.toArray) := ⟨_, Lib.hid rfl⟩
  have hgr2 : w.grownBy W2 (some g) := by
    rw [hW2.out]
    have hs := setRow_grown W1 w.heap.size c1.toArray
    exact ⟨hs.os.trans hgr0.os, hs.tape.trans hgr0.tape, hs.output.trans hgr0.output, Nat.le_trans hgr0.size hs.size, fun k hk hne => (hs.block k (by omega) (by simp; omega)).trans (hgr0.block k hk hne)⟩
  rw [← hW2.out] at hcp1 b2 bg2
  have hcells : ∀ v ∈ ks.flatMap enc, v.oneCell' = true := fun v hv => by
    obtain ⟨y, _, hy⟩ := List.mem_flatMap.1 hv
    exact enc_one y v hy
  have hcp2 : ∀ ty dc sc, (Builtin.copy_ #[39, 39] ty #[.slice (some ⟨w.heap.size, (i + 1) * 3, none⟩) (cap - i) dc, .slice (some ⟨g, i * 3, none⟩) (cap - i) sc]).run Try.prog W2.drew = .ok (goInt (cap - i : Nat)) (W2.drew.setRow w.heap.size (c1.toArray.toList.take ((i + 1) * 3) ++ (ks.drop i).flatMap enc ++ c1.toArray.toList.drop ((i + 1) * 3 + ((ks.drop i).flatMap enc).length)).toArray) := fun ty dc sc =>
    run_copy_rowK W2.drew _ _ ty 34 3 w.heap.size ((i + 1) * 3) (cap - i) dc ⟨g, i * 3, none⟩ (cap - i) sc (cap - i) c1.toArray 34 ((ks.drop i).flatMap enc) Try.underlying39 sizeKey b2 (by simp only [Nat.min_def]; split <;> omega) hd
      (fun j v hj => by
        rw [Addr.add_lit]
        show W2.cell? _ = _
        rw [bg2.cell, ← hj, ← flat_drop, List.getElem?_drop, ← hcur, Array.getElem?_toList])
      (by rw [hd, List.size_toArray, hl1]; omega) (fun v hv => by rw [← flat_drop] at hv; exact hcells v (List.mem_of_mem_drop hv))
  have HP : Hid (InsPost g cap (ks.take i ++ x :: ks.drop i) w (.returned (.slice (some ⟨w.heap.size, 0, none⟩) (cap + 1) c')) (W2.drew.setRow w.heap.size (c1.toArray.toList.take ((i + 1) * 3) ++ (ks.drop i).flatMap enc ++ c1.toArray.toList.drop ((i + 1) * 3 + ((ks.drop i).flatMap enc).length)).toArray)) := Lib.hid (by
    have hrow := Blk.setRow (w := W2.drew) b2 (c1.toArray.toList.take ((i + 1) * 3) ++ (ks.drop i).flatMap enc ++ c1.toArray.toList.drop ((i + 1) * 3 + ((ks.drop i).flatMap enc).length)).toArray
    refine ⟨w.heap.size, c', rfl, ?_, ?_, .inr (Nat.le_refl _)⟩
    · unfold OwnK OwnS
      have hlen : (ks.take i ++ x :: ks.drop i).length = cap + 1 := by simp; omega
      rw [hlen]
      refine of_row hrow (Nat.zero_le _) hc1 hc2 ?_ ?_
      · simp only [List.size_toArray, List.length_append, List.length_take, List.length_drop, hl1, hd]; omega
      · rw [List.toList_toArray, List.toList_toArray]
        have f1 : c1.take ((i + 1) * 3) = (ks.take i).flatMap enc ++ enc x := by
          have g1 : c0.take (i * 3) = (ks.take i).flatMap enc := by rw [hc0, List.append_assoc, ← htk, List.take_left]
          have g2 : ((ks.take i).flatMap enc ++ enc x).length = (i + 1) * 3 := by rw [List.length_append, htk, enc_len]; omega
          rw [hc1e, List.toList_toArray, g1, ← g2, List.take_left]
        rw [f1]
        have hl : ((ks.take i).flatMap enc ++ enc x ++ (ks.drop i).flatMap enc).length = (cap + 1) * 3 := by simp only [List.length_append, htk, hd, enc_len]; omega
        rw [← hl, List.take_left, flat_app, List.flatMap_cons, List.append_assoc]
    · have hs := setRow_grown W2.drew w.heap.size (c1.toArray.toList.take ((i + 1) * 3) ++ (ks.drop i).flatMap enc ++ c1.toArray.toList.drop ((i + 1) * 3 + ((ks.drop i).flatMap enc).length)).toArray
      exact ⟨hs.os.trans hgr2.os, hs.tape.trans hgr2.tape, hs.output.trans hgr2.output, Nat.le_trans hgr2.size hs.size, fun k hk hne => (hs.block k (by show k < W2.heap.size; have := hgr2.size; omega) (by simp; omega)).trans (hgr2.block k hk hne)⟩)
  generalize (c1.toArray.toList.take ((i + 1) * 3) ++ (ks.drop i).flatMap enc ++ c1.toArray.toList.drop ((i + 1) * 3 + ((ks.drop i).flatMap enc).length)).toArray = c2 at *
  have hcapm : c' ≤ 9223372036854775807 := by unfold maxLen at hc2; omega
  have hw1 : IntKind.i64.wrap ((i : Int) + 1) = (i : Int) + 1 := by rw [IntKind.wrap_i64]; omega
  have hw2 : IntKind.i64.wrap ((cap : Int) + 1 - (i : Int)) = (cap : Int) + 1 - (i : Int) := by rw [IntKind.wrap_i64]; omega
  have hb1 : (0 : Int) ≤ (i : Int) + 1 := by omega
  have htn : ((i : Int) + 1).toNat = i + 1 := by omega
  have hb2 : ¬ (c' = i + 1) := by omega
  have hb4 : ¬ (c' = i) := by omega
  have hb5 : i ≤ cap := by omega
  have hb6 : ¬ (cap = i) := by omega
  have hb7 : i ≤ cap + 1 := by omega
  clear h h' a1 a4 a5 a6 hcur hcl hd htk hc0 hl0 b1 bv bg hgr0 hc1e hl1 b2 bg2 hgr2 hcells hv hn hrest hzs hgl hvl hc1 hc2
  go_enter Try.func47, Try.ntmps47
  go_wp2_with (at_builtin; first | (refine wpList_append_runK _ rfl _ _ 39 3 rfl _ _ rfl rfl hap ?_) | (refine wpList_copy_runK _ rfl _ _ 39 39 rfl _ _ rfl rfl (hcp1 _ _) ?_))
  go_region_law (refine step_copy_runK rfl _ _ 39 39 rfl _ _ (by simp [Act.eval, Act.put]) (by simp [Act.eval, Act.put]) (hcp2 _ _ _) ?_)
  go_wp2_with fail
  go_ret
  exact HP.out
/-- One key, put in at its place. -/
theorem insert_any (g n cap i : Nat) (ks : List Ky) (x : Ky) (w : World) (hn : ks.length = n) (hi : i ≤ n) (hm : n ≤ 1000000) (h : OwnK w 0 (.slice (some ⟨g, 0, none⟩) n cap) ks) (vb : Nat)
    (hv : Blk w vb 34 #[.int .i64 x.1, .int .i64 x.2.1, .int .u32 x.2.2]) (hne : vb ≠ g) :
    Calls Try.prog 47 #[.slice (some ⟨g, 0, none⟩) n cap, .int .i64 i, .slice (some ⟨vb, 0, none⟩) 1 1] w (InsPost g n (ks.take i ++ x :: ks.drop i) w) := by
  rcases Nat.eq_or_lt_of_le hi with e | hlt
  · subst e
    have := insert_end g i cap ks x w hn hm h vb hv
    rw [List.take_of_length_le (by omega), List.drop_of_length_le (by omega)]
    exact this
  · have hc := h.pos.1
    rw [hn] at hc
    rcases Nat.eq_or_lt_of_le hc with e | hc
    · exact insert_grow g n cap i ks x w hn hlt e.symm hm h vb hv
    · exact insert_shift g n cap i ks x w hn hlt hc hm h vb hv hne
end Go.Proofs.Ytolcidilnmjlmaa.Tbl
