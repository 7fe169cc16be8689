/- The document's own answers for layer table (7): Del, Drop. -/
import Derived.Test.YtolcidilnmjlmaaTblR
import Derived.Test.YtolcidilnmjlmaaRowC
import Derived.Shelf.RegionOpenPlain
namespace Go.Proofs.Ytolcidilnmjlmaa.TblR
open Go.ChangeShapes Go.WideShapes Go.ChangeAt Go.RowKit
open Go.Proofs.Ytolcidilnmjlmaa.Key Go.Proofs.Ytolcidilnmjlmaa.Rw Go.Proofs.Ytolcidilnmjlmaa.Tbl
set_option linter.unusedVariables false
set_option linter.unusedSimpArgs false
theorem flatR_take (d : List Row) (i : Nat) : (d.flatMap encW).take (i * 4) = (d.take i).flatMap encW := by
  induction d generalizing i with
  | nil => simp
  | cons a d ih =>
    cases i with
    | zero => simp
    | succ i =>
      rw [List.flatMap_cons, List.take_append, List.take_succ_cons, List.flatMap_cons, encW_len]
      rw [List.take_of_length_le (by rw [encW_len]; omega), show (i + 1) * 4 - 4 = i * 4 by omega, ih]
theorem flatR_drop (d : List Row) (i : Nat) : (d.flatMap encW).drop (i * 4) = (d.drop i).flatMap encW := by
  induction d generalizing i with
  | nil => simp
  | cons a d ih =>
    cases i with
    | zero => simp
    | succ i =>
      rw [List.flatMap_cons, List.drop_append, List.drop_succ_cons, encW_len, List.drop_of_length_le (by rw [encW_len]; omega), show (i + 1) * 4 - 4 = i * 4 by omega, ih]
      rfl
theorem flatR_len (d : List Row) : (d.flatMap encW).length = d.length * 4 := flat_len encW_len d
theorem flatR_one (d : List Row) : ∀ v ∈ d.flatMap encW, v.oneCell' = true := fun v hv => by
  obtain ⟨y, _, hy⟩ := List.mem_flatMap.1 hv
  exact encW_one y v hy
/-- A row that reads lies cell by cell. -/
theorem rd_flat {w : World} {b off : Nat} {d : List Row} (h : ∀ i, i < d.length → Rw.At encW w b (off + i * 4) (d.getD i default)) (j : Nat) (u : Value) (hu : (d.flatMap encW)[j]? = some u) : w.cell? ⟨b, off + j, none⟩ = some u := by
  have hj := (List.getElem?_eq_some_iff.1 hu).1
  rw [flatR_len] at hj
  have e := flat_at encW_len d (j / 4) (j % 4) (by omega) (Nat.mod_lt _ (by decide))
  rw [show j / 4 * 4 + j % 4 = j by omega] at e
  have h2 := h (j / 4) (by omega) (j % 4) u (by rw [← e]; exact hu)
  rw [show off + j / 4 * 4 + j % 4 = off + j by omega] at h2
  exact h2
theorem own_ge {w : World} {base e size n : Nat} {v : Value} {xs : List Value} (h : w.ownsRow base e size v n xs) {k : Nat} (hk : v.ownBlock = some k) : base ≤ k := by
  rcases h.2 with ⟨rfl, _⟩ | ⟨g, c, cur, rfl, hb, -⟩
  · simp [Value.ownBlock] at hk
  · simp [Value.ownBlock] at hk; omega
theorem setC2 {w : World} {g : Nat} {v0 v1 u0 u1 : Value} (h0 : w.cell? ⟨g, 0, none⟩ = some v0) (h1 : w.cell? ⟨g, 1, none⟩ = some v1) :
    ((w.setCell ⟨g, 0, none⟩ u0).setCell ⟨g, 1, none⟩ u1).cell? ⟨g, 0, none⟩ = some u0 ∧ ((w.setCell ⟨g, 0, none⟩ u0).setCell ⟨g, 1, none⟩ u1).cell? ⟨g, 1, none⟩ = some u1 := by
  have n01 : (⟨g, 0, none⟩ : Addr) ≠ ⟨g, 1, none⟩ := by simp
  refine ⟨?_, ?_⟩
  · rw [World.cell?_setCell_other (h := Ne.symm n01), World.cell?_setCell_same (h := h0)]
  · rw [World.cell?_setCell_same (h := by rw [World.cell?_setCell_other (h := n01)]; exact h1)]
/-- What comes out: a list in new memory. -/
def NewR (d : List Row) (most : Int) (w : World) (e : Ending) (w' : World) : Prop :=
  ∃ ad cap, e = .returned (tval ad d.length cap most) ∧ OwnR w' w.heap.size (.slice ad d.length cap) d ∧ Below w.heap.size w w'
set_option maxRecDepth 100000 in
theorem rdel_any (ad : Option Addr) (n cap i : Nat) (most : Int) (d : List Row) (w : World) (hn : d.length = n) (hi : i < n) (hm : n ≤ 1000000) (hr : RdR w ad d) (hc : n ≤ cap) (hcm : cap ≤ 9223372036854775807) :
    Calls Try.prog 26 #[tval ad n cap most, .int .i64 i] w (NewR (delR d i) most w) := by
  obtain ⟨i0, hi0, hz0, hz1, hz2⟩ := info_parts infoRow
  obtain ⟨b, off, rfl, hbw, -⟩ := hr.at_ (i := i) (by omega)
  have hcells : ∀ j, j < d.length → Rw.At encW w b (off + j * 4) (d.getD j default) := fun j hj => by
    obtain ⟨b2, off2, e, -, h⟩ := hr.at_ (i := j) hj
    simp at e
    obtain ⟨rfl, rfl⟩ := e
    exact h
  obtain ⟨w0, hw0⟩ : ∃ w0, Hid (w0 = (w.alloc (.cells #[.slice (some ⟨b, off, none⟩) n cap, .int .i64 most] 27)).alloc (.cells #[.slice none 0 0, .int .i64 0] 27)) := ⟨_, Lib.hid rfl⟩
  have hB0 : Below w.heap.size w w0 := by rw [hw0.out]; exact (box_below _ _).alloc (by simp) _
  have hsz : w0.heap.size = w.heap.size + 2 := by rw [hw0.out, World.size_alloc, World.size_alloc]
  have b0 : Blk w0 w.heap.size 27 #[.slice (some ⟨b, off, none⟩) n cap, .int .i64 most] := by rw [hw0.out]; exact (Blk.new w _ _).alloc _
  have b1 : Blk w0 (w.heap.size + 1) 27 #[.slice none 0 0, .int .i64 0] := by
    rw [hw0.out]
    have := Blk.new (w.alloc (.cells #[.slice (some ⟨b, off, none⟩) n cap, .int .i64 most] 27)) 27 #[.slice none 0 0, .int .i64 0]
    rw [World.size_alloc] at this
    exact this
  have h0 : OwnR (w0.alloc (.cells #[] 63)) w0.heap.size (.slice (some ⟨w0.heap.size, 0, none⟩) 0 0) [] := Rw.OwnS.lit w0 [] encW_len (by unfold maxLen; simp)
  -- the cells that are read, in whatever world that keeps what lay ahead
  have HS : Hid (∀ W, Below w0.heap.size w0 W → (∀ j u, ((d.take i).flatMap encW)[j]? = some u → W.cell? ((⟨b, off, none⟩ : Addr).add j) = some u) ∧ (∀ j u, ((d.drop (i + 1)).flatMap encW)[j]? = some u → W.cell? ((⟨b, off + (i + 1) * 4, none⟩ : Addr).add j) = some u) ∧
      (W.cell? ⟨w.heap.size, 0, none⟩ = some (.slice (some ⟨b, off, none⟩) n cap) ∧ W.cell? ⟨w.heap.size, 1, none⟩ = some (.int .i64 most)) ∧ Blk W (w.heap.size + 1) 27 #[.slice none 0 0, .int .i64 0]) := Lib.hid (fun W hB => by
    have hk : ∀ j u, (d.flatMap encW)[j]? = some u → W.cell? ⟨b, off + j, none⟩ = some u := fun j u hu => ((hB0.trans (hB.mono (by omega))).cell (p := ⟨b, off + j, none⟩) hbw).trans (rd_flat hcells j u hu)
    refine ⟨fun j u hu => ?_, fun j u hu => ?_, ⟨(b0.below hB).cell 0, (b0.below hB).cell 1⟩, b1.below hB⟩
    · rw [Addr.add_lit]
      refine hk j u ?_
      rw [← flatR_take, List.getElem?_take] at hu
      split at hu
      · exact hu
      · cases hu
    · rw [Addr.add_lit, Nat.add_assoc]
      refine hk _ u ?_
      rw [← flatR_drop, List.getElem?_drop] at hu
      exact hu)
  have HP : Hid (∀ v2 w2 W, w2.ownsRow w0.heap.size 63 4 v2 (i + (n - (i + 1))) ((d.take i).flatMap encW ++ (d.drop (i + 1)).flatMap encW) → Below w0.heap.size w0 w2 → W = (w2.setCell ⟨w.heap.size + 1, 0, none⟩ v2).setCell ⟨w.heap.size + 1, 1, none⟩ (.int .i64 most) → NewR (delR d i) most w (.returned (.agg #[v2, .int .i64 most])) W) := Lib.hid (fun v2 w2 W h2 hB hW => by
    have hl : (delR d i).length = i + (n - (i + 1)) := by rw [del_len (by omega), hn]; omega
    have ho : OwnR w2 w0.heap.size v2 (delR d i) := by
      unfold OwnR OwnS
      rw [hl]
      unfold delR
      rw [List.flatMap_append]
      exact h2
    have hsh : ∃ ad' cap', v2 = .slice ad' (delR d i).length cap' := by
      obtain ⟨ad', cap', e, -⟩ := Own.shape ho
      exact ⟨ad', cap', e⟩
    obtain ⟨ad', cap', rfl⟩ := hsh
    have hBW : Below w.heap.size w W := by
      rw [hW]
      exact (((hB0.trans (hB.mono (by omega))).setCell (p := ⟨w.heap.size + 1, 0, none⟩) (by simp) _).setCell (p := ⟨w.heap.size + 1, 1, none⟩) (by simp) _)
    refine ⟨ad', cap', rfl, ?_, hBW⟩
    rw [hW]
    have hbb := (b1.below hB)
    have hne := own_ne ho hbb (by decide)
    have k1 := World.ownsRow.kept ho (setCell_grown w2 (w.heap.size + 1) 0 (.slice ad' (delR d i).length cap')) (.inr hne)
    have k2 := World.ownsRow.kept k1 (setCell_grown _ (w.heap.size + 1) 1 (.int .i64 most)) (.inr hne)
    exact Own.mono k2 (by omega))
  have HG : Hid (∀ (w2 w3 : World) (v : Value), Below w0.heap.size w0 w2 → (∀ k, v.ownBlock = some k → w0.heap.size ≤ k) → w2.grownBy w3 v.ownBlock → Below w0.heap.size w0 w3) := Lib.hid (fun w2 w3 v h h1 h2 => h.trans ((Below.refl _ w2).grown h2 h.size (fun k e => h1 k e)))
  have ht4 : ((d.take i).flatMap encW).length = i * 4 := by rw [flatR_len, List.length_take, hn, Nat.min_eq_left (by omega)]
  have hd4 : ((d.drop (i + 1)).flatMap encW).length = (n - (i + 1)) * 4 := by rw [flatR_len, List.length_drop, hn]
  have hw1 : IntKind.i64.wrap ((i : Int) + 1) = (i : Int) + 1 := by rw [IntKind.wrap_i64]; omega
  have hb1 : (0 : Int) ≤ (i : Int) + 1 := by omega
  have htn : ((i : Int) + 1).toNat = i + 1 := by omega
  have hb3 : (i : Int) ≤ (cap : Int) := by omega
  have hb4 : (i : Int) + 1 ≤ (n : Int) := by omega
  have hb5 : i + 1 ≤ n := by omega
  have hb6 : i ≤ cap := by omega
  have hB0' : Below w0.heap.size w0 (w0.alloc (.cells #[] 63)) := box_below _ _
  obtain ⟨e1, -, ⟨c0, c1⟩, -⟩ := HS.out w0 (Below.refl _ _)
  obtain ⟨s1, -, ⟨c2, c3⟩, -⟩ := HS.out _ hB0'
  clear hr hcells b0 b1 hB0 hn hsz
  unfold tval
  go_enter Try.func26, Try.ntmps26
  go_upto_region 1 with fail
  rw [← hw0.out]
  go_wp2_with (at_builtin; refine Own.wpList_append2 _ rfl _ _ 25 rfl w0.heap.size 63 i0 (.agg #[.int .i64 0, .int .i64 0, .int .u32 0, .int .i64 0]) 4 32 Try.underlying25 hi0 hz0 hz1 hz2 rfl (by decide) _ 0 _ rfl h0 ⟨b, off, none⟩ i cap ((d.take i).flatMap encW) rfl ht4 s1 (flatR_one _) (by unfold maxLen; omega) (by omega) (by simp) ?_; intro v2 w2 hown2 hgrow2 _ hw2)
  have hB2 : Below w0.heap.size w0 w2 := HG.out _ w2 _ hB0' (fun k e => own_ge h0 e) hgrow2
  have hd2 : w2.ownsRow w0.heap.size 63 4 v2 i ((d.take i).flatMap encW) := by simpa using hown2
  have hsz2 : w0.heap.size ≤ w2.heap.size := hB2.size
  obtain ⟨-, s2, ⟨g0, g1⟩, gb⟩ := HS.out w2 hB2
  have HW : Hid (∀ wa v3 w3, Below w0.heap.size w0 wa → w3.ownsRow w0.heap.size 63 4 v3 (i + (n - (i + 1))) ((d.take i).flatMap encW ++ (d.drop (i + 1)).flatMap encW) → wa.grownBy w3 v2.ownBlock → Below w0.heap.size w0 w3 ∧
      w3.cell? ⟨w.heap.size, 0, none⟩ = some (.slice (some ⟨b, off, none⟩) n cap) ∧ w3.cell? ⟨w.heap.size, 1, none⟩ = some (.int .i64 most) ∧ w3.cell? ⟨w.heap.size + 1, 0, none⟩ = some (.slice none 0 0) ∧ w3.cell? ⟨w.heap.size + 1, 1, none⟩ = some (.int .i64 0) ∧ w3.frozen? ⟨w.heap.size + 1, 0, none⟩ = false ∧ w3.frozen? ⟨w.heap.size + 1, 1, none⟩ = false) := Lib.hid (fun wa v3 w3 ha h3 hg => by
    have hb : Below w0.heap.size w0 w3 := HG.out wa w3 v2 ha (fun k e => own_ge hd2 e) hg
    obtain ⟨-, -, ⟨q0, q1⟩, qb⟩ := HS.out w3 hb
    exact ⟨hb, q0, q1, qb.cell 0, qb.cell 1, qb.free 0, qb.free 1⟩)
  have v0 := gb.cell 0
  have v1 := gb.cell 1
  have x0 := gb.free 0
  have x1 := gb.free 1
  clear s1 e1 c0 c1 c2 c3 hown2 hgrow2 hw2 hB0' gb HS h0 HG
  by_cases hcap : cap = i + 1
  · subst hcap
    have hnil : (d.drop (i + 1)).flatMap encW = [] := List.eq_nil_of_length_eq_zero (by rw [hd4]; omega)
    obtain rfl : n = i + 1 := by omega
    rw [Nat.sub_self] at hd4 HW HP
    go_region_law (refine step_append2 _ rfl _ _ 25 rfl w0.heap.size 63 i0 (.agg #[.int .i64 0, .int .i64 0, .int .u32 0, .int .i64 0]) 4 32 Try.underlying25 hi0 hz0 hz1 hz2 rfl (by decide) v2 i ((d.take i).flatMap encW) ?_ hd2 (some ⟨b, off, none⟩) 0 0 ((d.drop (i + 1)).flatMap encW) ?_ hd4 (fun e => by cases e) (fun ad e => by cases e; exact fun j u hu => by rw [hnil] at hu; cases hu) (flatR_one _) (by unfold maxLen; omega) (by omega) hsz2 ?_; (focus (simp [Act.eval, Act.put])); (focus (simp [Act.eval, Act.put])); intro v3 w3 hown3 hgrow3 _; obtain ⟨ad3, cap3, rfl, -⟩ := Own.shape hown3; obtain ⟨hB3, f0, f1, u0, u1, y0, y1⟩ := HW.out _ _ w3 (by first | exact hB2 | exact hB2.drew) hown3 hgrow3)
    all_goals
      go_wp2_with fail
      obtain ⟨r0, r1⟩ := setC2 (u0 := .slice ad3 i cap3) (u1 := .int .i64 most) u0 u1
      refine bodyPost_ret (v := .agg #[.slice ad3 i cap3, .int .i64 most]) (by simp [results, Try.results26, go_sem, r0, r1]) rfl ?_
      exact HP.out _ w3 _ hown3 hB3 rfl
  · have hadd : ((⟨b, off, none⟩ : Addr).add ((i + 1) * 4)) = ⟨b, off + (i + 1) * 4, none⟩ := by rw [Addr.add_lit]
    go_region_law (refine step_append2 _ rfl _ _ 25 rfl w0.heap.size 63 i0 (.agg #[.int .i64 0, .int .i64 0, .int .u32 0, .int .i64 0]) 4 32 Try.underlying25 hi0 hz0 hz1 hz2 rfl (by decide) v2 i ((d.take i).flatMap encW) ?_ hd2 (some ⟨b, off + (i + 1) * 4, none⟩) (n - (i + 1)) (cap - (i + 1)) ((d.drop (i + 1)).flatMap encW) ?_ hd4 (fun e => by cases e) (fun ad e => by cases e; exact s2) (flatR_one _) (by unfold maxLen; omega) (by omega) hsz2 ?_; (focus (simp [Act.eval, Act.put])); (focus (simp [Act.eval, Act.put])); intro v3 w3 hown3 hgrow3 _; obtain ⟨ad3, cap3, rfl, -⟩ := Own.shape hown3; obtain ⟨hB3, f0, f1, u0, u1, y0, y1⟩ := HW.out _ _ w3 (by first | exact hB2 | exact hB2.drew) hown3 hgrow3)
    all_goals
      go_wp2_with fail
      obtain ⟨r0, r1⟩ := setC2 (u0 := .slice ad3 (i + (n - (i + 1))) cap3) (u1 := .int .i64 most) u0 u1
      refine bodyPost_ret (v := .agg #[.slice ad3 (i + (n - (i + 1))) cap3, .int .i64 most]) (by simp [results, Try.results26, go_sem, r0, r1]) rfl ?_
      exact HP.out _ w3 _ hown3 hB3 rfl
end Go.Proofs.Ytolcidilnmjlmaa.TblR
