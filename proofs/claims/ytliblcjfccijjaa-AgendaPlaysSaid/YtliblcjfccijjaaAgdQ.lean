/- The document's own answers for layer agenda (8): Add. -/
import Derived.Test.YtliblcjfccijjaaAgdR
namespace Go.Proofs.Ytliblcjfccijjaa.AgdR
open Go.ChangeShapes Go.WideShapes Go.ChangeAt Go.RowKit
open Go.Proofs.Ytliblcjfccijjaa.Rw Go.Proofs.Ytliblcjfccijjaa.Agd
set_option linter.unusedVariables false
set_option linter.unusedSimpArgs false
theorem flatW_one (d : List Th) : ∀ v ∈ d.flatMap encW, v.oneCell' = true := fun v hv => by
  obtain ⟨y, _, hy⟩ := List.mem_flatMap.1 hv
  exact encW_one y v hy
theorem flatW_len (d : List Th) : (d.flatMap encW).length = d.length * 2 := flat_len encW_len d
theorem rd_flat {w : World} {b off : Nat} {d : List Th} (h : ∀ i, i < d.length → Rw.At encW w b (off + i * 2) (d.getD i default)) (j : Nat) (u : Value) (hu : (d.flatMap encW)[j]? = some u) : w.cell? ⟨b, off + j, none⟩ = some u := by
  have hj := (List.getElem?_eq_some_iff.1 hu).1
  rw [flatW_len] at hj
  have e := flat_at encW_len d (j / 2) (j % 2) (by omega) (Nat.mod_lt _ (by decide))
  rw [show j / 2 * 2 + j % 2 = j by omega] at e
  have h2 := h (j / 2) (by omega) (j % 2) u (by rw [← e]; exact hu)
  rw [show off + j / 2 * 2 + j % 2 = off + j by omega] at h2
  exact h2
/-- The cells of a list that reads, from wherever it lies. -/
theorem rd_news {w : World} {ad : Option Addr} {d : List Th} (h : RdR w ad d) : ∀ x, ad = some x → ∀ j u, (d.flatMap encW)[j]? = some u → w.cell? (x.add j) = some u := fun x e j u hu => by
  rcases h with rfl | ⟨b, off, rfl, -, hc⟩
  · simp at hu
  · cases e
    rw [Addr.add_lit]
    exact rd_flat hc j u hu
theorem own0 {W : World} {t : TypeId} {size k base : Nat} (h : Blk W k t #[]) (hb : base ≤ k) : W.ownsRow base t size (.slice (some ⟨k, 0, none⟩) 0 0) 0 [] := of_row h hb (Nat.le_refl _) (by unfold maxLen; simp) (by simp) (by simp)
theorem grown_below {n : Nat} {w0 W w2 : World} {row : Option Nat} (h : Below n w0 W) (hg : W.grownBy w2 row) (hn : n ≤ W.heap.size) (hr : ∀ k, row = some k → n ≤ k) : Below n w0 w2 := h.trans ((Below.refl n W).grown hg hn hr)
theorem news_blk {W : World} {k : Nat} {T : TypeId} {t : Th} (h : Blk W k T #[.int .i64 t.due, .int .i64 t.x]) : ∀ j u, (encW t)[j]? = some u → W.cell? ((⟨k, 0, none⟩ : Addr).add j) = some u := fun j u hu => by
  rw [Addr.add_lit, Nat.zero_add, h.cell]
  simpa [encW] using hu
/-- What comes out: a list in new memory, and what is told beside it. -/
def NewR (d : List Th) (most : Int) (rest : Array Value) (w : World) (e : Ending) (w' : World) : Prop :=
  ∃ ad cap, e = .returned (.tuple (#[aval ad d.length cap most] ++ rest)) ∧ OwnR w' w.heap.size (.slice ad d.length cap) d ∧ Below w.heap.size w w'
theorem setC2 {w : World} {g : Nat} {v0 v1 u0 u1 : Value} (h0 : w.cell? ⟨g, 0, none⟩ = some v0) (h1 : w.cell? ⟨g, 1, none⟩ = some v1) :
    ((w.setCell ⟨g, 0, none⟩ u0).setCell ⟨g, 1, none⟩ u1).cell? ⟨g, 0, none⟩ = some u0 ∧ ((w.setCell ⟨g, 0, none⟩ u0).setCell ⟨g, 1, none⟩ u1).cell? ⟨g, 1, none⟩ = some u1 := by
  have n01 : (⟨g, 0, none⟩ : Addr) ≠ ⟨g, 1, none⟩ := by simp
  refine ⟨?_, ?_⟩
  · rw [World.cell?_setCell_other (h := Ne.symm n01), World.cell?_setCell_same (h := h0)]
  · rw [World.cell?_setCell_same (h := by rw [World.cell?_setCell_other (h := n01)]; exact h1)]
theorem radd_full (due x : Int) (ad : Option Addr) (n cap : Nat) (most : Int) (d : List Th) (w : World) (hn : d.length = n) (hfull : (n : Int) ≥ most) :
    Calls Try.prog 30 #[aval ad n cap most, .int .i64 due, .int .i64 x] w fun e w' => e = .returned (.tuple #[aval ad n cap most, .bool false]) ∧ Below w.heap.size w w' := by
  have HB : Hid (∀ o o', Below w.heap.size w ((w.alloc o).alloc o')) := Lib.hid (fun o o' => (box_below w o).alloc (by simp) o')
  have HV : Hid (∀ w : World, ((w.alloc (.cells #[.slice ad n cap, .int .i64 most] 57)).alloc (.cells #[.slice none 0 0, .int .i64 0] 57)).cell? ⟨w.heap.size + 1, 0, none⟩ = some (.slice none 0 0) ∧ ((w.alloc (.cells #[.slice ad n cap, .int .i64 most] 57)).alloc (.cells #[.slice none 0 0, .int .i64 0] 57)).cell? ⟨w.heap.size + 1, 1, none⟩ = some (.int .i64 0)) := Lib.hid (fun w => by
    have := Blk.new (w.alloc (.cells #[.slice ad n cap, .int .i64 most] 57)) 57 #[.slice none 0 0, .int .i64 0]
    rw [World.size_alloc] at this
    exact ⟨this.cell 0, this.cell 1⟩)
  have e1 : decide ((n : Int) ≥ most) = true := by simp; omega
  unfold aval
  go_enter Try.func30, Try.ntmps30
  go_wp2_with fail
  obtain ⟨r0, r1⟩ := setC2 (u0 := .slice ad n cap) (u1 := .int .i64 most) (HV.out w).1 (HV.out w).2
  refine bodyPost_ret (v := .tuple #[.agg #[.slice ad n cap, .int .i64 most], .bool false]) (by simp [results, Try.results30, go_sem, r0, r1]) rfl ?_
  exact ⟨rfl, HB.out _ _⟩
set_option maxRecDepth 100000 in
set_option maxHeartbeats 4000000 in
theorem radd_any (t : Th) (ad : Option Addr) (n cap : Nat) (most : Int) (d : List Th) (w : World) (hn : d.length = n) (hm : n ≤ 100000) (hr : RdR w ad d) (hcm : cap ≤ 9223372036854775807) (hnone : ad = none → cap = 0) (hfull : (n : Int) < most) (hle : n ≤ cap) :
    Calls Try.prog 30 #[aval ad n cap most, .int .i64 t.due, .int .i64 t.x] w (NewR (d ++ [t]) most #[.bool true] w) := by
  obtain ⟨i0, hi0, hz0, hz1, hz2⟩ := info_parts infoW
  obtain ⟨w0, hw0⟩ : ∃ w0, Hid (w0 = (w.alloc (.cells #[.slice ad n cap, .int .i64 most] 57)).alloc (.cells #[.slice none 0 0, .int .i64 0] 57)) := ⟨_, Lib.hid rfl⟩
  have hB0 : Below w.heap.size w w0 := by rw [hw0.out]; exact (box_below _ _).alloc (by simp) _
  have hsz : w0.heap.size = w.heap.size + 2 := by rw [hw0.out, World.size_alloc, World.size_alloc]
  have b0 : Blk w0 w.heap.size 57 #[.slice ad n cap, .int .i64 most] := by rw [hw0.out]; exact (Blk.new w _ _).alloc _
  have b1 : Blk w0 (w.heap.size + 1) 57 #[.slice none 0 0, .int .i64 0] := by
    rw [hw0.out]
    have := Blk.new (w.alloc (.cells #[.slice ad n cap, .int .i64 most] 57)) 57 #[.slice none 0 0, .int .i64 0]
    rw [World.size_alloc] at this
    exact this
  have hl2 : (d.flatMap encW).length = n * 2 := by rw [flatW_len, hn]
  have hnone2 : ad = none → n = 0 ∧ cap = 0 := fun e => by have := hnone e; omega
  have HN : Hid (∀ W, Below (w.heap.size + 1) w0 W → ∀ x, ad = some x → ∀ j u, (d.flatMap encW)[j]? = some u → W.cell? (x.add j) = some u) := Lib.hid (fun W hW => rd_news (hr.below (hB0.trans (hW.mono (by omega)))))
  have HC : Hid (∀ W, Below (w.heap.size + 1) w0 W → W.cell? ⟨w.heap.size, 0, none⟩ = some (.slice ad n cap) ∧ W.cell? ⟨w.heap.size, 1, none⟩ = some (.int .i64 most)) := Lib.hid (fun W hW => ⟨(b0.below2 hW (by omega)).cell 0, (b0.below2 hW (by omega)).cell 1⟩)
  obtain ⟨c0, c1⟩ := HC.out w0 (Below.refl _ _)
  have e1 : decide ((n : Int) ≥ most) = false := by simp; omega
  have HY : Hid (∀ W, Below w0.heap.size w0 W → W.cell? ⟨w.heap.size + 1, 0, none⟩ = some (.slice none 0 0) ∧ W.cell? ⟨w.heap.size + 1, 1, none⟩ = some (.int .i64 0) ∧ W.frozen? ⟨w.heap.size + 1, 0, none⟩ = false ∧ W.frozen? ⟨w.heap.size + 1, 1, none⟩ = false) := Lib.hid (fun W hW => by
    have := b1.below hW
    exact ⟨this.cell 0, this.cell 1, this.free 0, this.free 1⟩)
  have HP : Hid (∀ v2 w2 W, w2.ownsRow w0.heap.size 73 2 v2 (n + 1) (d.flatMap encW ++ encW t) → Below w0.heap.size w0 w2 → W = (w2.setCell ⟨w.heap.size + 1, 0, none⟩ v2).setCell ⟨w.heap.size + 1, 1, none⟩ (.int .i64 most) → NewR (d ++ [t]) most #[.bool true] w (.returned (.tuple #[.agg #[v2, .int .i64 most], .bool true])) W) := Lib.hid (fun v2 w2 W h2 hB hW => by
    have hl : (d ++ [t]).length = n + 1 := by rw [List.length_append, hn]; rfl
    have ho : OwnR w2 w0.heap.size v2 (d ++ [t]) := by
      unfold OwnR OwnS
      rw [hl, List.flatMap_append, List.flatMap_singleton]
      exact h2
    obtain ⟨ad', cap', rfl⟩ : ∃ ad' cap', v2 = .slice ad' (d ++ [t]).length cap' := by
      obtain ⟨ad', cap', e, -⟩ := Own.shape ho
      exact ⟨ad', cap', e⟩
    have hBW : Below w.heap.size w W := by
      rw [hW]
      exact (((hB0.trans (hB.mono (by omega))).setCell (p := ⟨w.heap.size + 1, 0, none⟩) (by simp) _).setCell (p := ⟨w.heap.size + 1, 1, none⟩) (by simp) _)
    refine ⟨ad', cap', rfl, ?_, hBW⟩
    rw [hW]
    have hne := own_ne ho (b1.below hB) (by decide)
    have k1 := World.ownsRow.kept ho (setCell_grown w2 (w.heap.size + 1) 0 (.slice ad' (d ++ [t]).length cap')) (.inr hne)
    have k2 := World.ownsRow.kept k1 (setCell_grown _ (w.heap.size + 1) 1 (.int .i64 most)) (.inr hne)
    exact Own.mono k2 (by omega))
  have HS1 : Hid (∀ o, Below (w.heap.size + 1) w0 (w0.alloc o).drew) := Lib.hid (fun o => ((box_below w0 o).drew).mono (by omega))
  have HS2 : Hid (∀ o o', Below (w.heap.size + 1) w0 ((w0.alloc o).alloc o').drew) := Lib.hid (fun o o' => (((box_below w0 o).alloc (by simp) o').drew).mono (by omega))
  have HS3 : Hid (∀ W, Below (w.heap.size + 1) w0 W → ∀ o, Below (w.heap.size + 1) w0 (W.alloc o)) := Lib.hid (fun W hW o => hW.alloc (by have := hW.size; omega) o)
  have HS4 : Hid (∀ W, Below (w.heap.size + 1) w0 W → ∀ u u', Below (w.heap.size + 1) w0 ((W.setCell ⟨w.heap.size + 1, 0, none⟩ u).setCell ⟨w.heap.size + 1, 1, none⟩ u')) := Lib.hid (fun W hW u u' => (hW.setCell (p := ⟨w.heap.size + 1, 0, none⟩) (Nat.le_refl _) _).setCell (p := ⟨w.heap.size + 1, 1, none⟩) (Nat.le_refl _) _)
  clear hr b0 hn
  unfold aval
  go_enter Try.func30, Try.ntmps30
  go_upto_region 1 with fail
  rw [← hw0.out]
  go_wp2_with fail
  have L1 : Hid (∀ o, Below w0.heap.size w0 (w0.alloc o).drew) := Lib.hid (fun o => (box_below w0 o).drew)
  have L2 : Hid (∀ o o', Below w0.heap.size w0 ((w0.alloc o).alloc o').drew) := Lib.hid (fun o o' => ((box_below w0 o).alloc (by simp) o').drew)
  have O1 : Hid ((w0.alloc (.cells #[] 73)).drew.ownsRow w0.heap.size 73 2 (.slice (some ⟨w0.heap.size, 0, none⟩) 0 0) 0 []) := Lib.hid (own0 (Blk.new w0 _ _) (Nat.le_refl _))
  have O2 : Hid (((w0.alloc (.cells #[] 73)).alloc (.cells #[.int .i64 t.due, .int .i64 t.x] 73)).drew.ownsRow w0.heap.size 73 2 (.slice (some ⟨w0.heap.size, 0, none⟩) 0 0) 0 []) := Lib.hid (own0 ((Blk.new w0 _ _).alloc _) (Nat.le_refl _))
  have hsz1 : ∀ o, (w0.alloc o).heap.size = w0.heap.size + 1 := fun o => World.size_alloc _ _
  have O3 : Hid (((w0.alloc (.cells #[.int .i64 t.due, .int .i64 t.x] 73)).alloc (.cells #[] 73)).drew.ownsRow w0.heap.size 73 2 (.slice (some ⟨w0.heap.size + 1, 0, none⟩) 0 0) 0 []) := Lib.hid (own0 (by rw [← hsz1 (.cells #[.int .i64 t.due, .int .i64 t.x] 73)]; exact Blk.new _ _ _) (by omega))
  have N2 : Hid (Blk ((w0.alloc (.cells #[] 73)).alloc (.cells #[.int .i64 t.due, .int .i64 t.x] 73)).drew (w0.heap.size + 1) 73 #[.int .i64 t.due, .int .i64 t.x]) := Lib.hid (by rw [← hsz1 (.cells #[] 73)]; exact Blk.new _ _ _)
  have N3 : Hid (Blk ((w0.alloc (.cells #[.int .i64 t.due, .int .i64 t.x] 73)).alloc (.cells #[] 73)).drew w0.heap.size 73 #[.int .i64 t.due, .int .i64 t.x]) := Lib.hid ((Blk.new w0 _ _).alloc _)
  clear hsz1
  refine wp_region_noPanic ?_
  go_region_held_law (fun W => Below (w.heap.size + 1) w0 W ∧ W.cell? ⟨w.heap.size, 0, none⟩ = some (.slice ad n cap) ∧ W.cell? ⟨w.heap.size, 1, none⟩ = some (.int .i64 most)) ((refine ⟨?_, HC.out _ ?_⟩ <;> (first | assumption | exact Below.drew (by assumption) | exact (Below.refl _ _).drew | exact HS1.out _ | exact HS2.out _ _ | exact HS3.out _ (by assumption) _ | exact HS4.out _ (by assumption) _ _ | exact (‹Below (w.heap.size + 1) w0 _ ∧ _›).1)))
    (first
      | (refine step_append2 _ rfl _ _ 55 rfl w0.heap.size 73 i0 (.agg #[.int .i64 0, .int .i64 0]) 2 16 Try.underlying55 hi0 hz0 hz1 hz2 rfl (by decide) (.slice (some ⟨w0.heap.size, 0, none⟩) 0 0) 0 [] ?_ (O1.out) ad n cap (d.flatMap encW) ?_ hl2 hnone2 (fun x e => HN.out _ ((L1.out _).mono (by omega)) x e) (flatW_one d) (by unfold maxLen; omega) (by omega) ((L1.out _).size) ?_; (focus (simp [Act.eval, Act.put])); (focus (simp [Act.eval, Act.put])); intro v2 w2 hown2 hgrow2 hsame2; have hT2 : Below w0.heap.size w0 w2 := grown_below (L1.out _) hgrow2 ((L1.out _).size) (fun k e => by have : w0.heap.size = k := (by simpa [Value.ownBlock] using e); omega); have hS2 : Below (w.heap.size + 1) w0 w2 := hT2.mono (by omega); have hz2' := hT2.size)
      | (refine step_append2 _ rfl _ _ 55 rfl w0.heap.size 73 i0 (.agg #[.int .i64 0, .int .i64 0]) 2 16 Try.underlying55 hi0 hz0 hz1 hz2 rfl (by decide) (.slice (some ⟨w0.heap.size, 0, none⟩) 0 0) 0 [] ?_ (O2.out) ad n cap (d.flatMap encW) ?_ hl2 hnone2 (fun x e => HN.out _ ((L2.out _ _).mono (by omega)) x e) (flatW_one d) (by unfold maxLen; omega) (by omega) ((L2.out _ _).size) ?_; (focus (simp [Act.eval, Act.put])); (focus (simp [Act.eval, Act.put])); intro v2 w2 hown2 hgrow2 hsame2; have hT2 : Below w0.heap.size w0 w2 := grown_below (L2.out _ _) hgrow2 ((L2.out _ _).size) (fun k e => by have : w0.heap.size = k := (by simpa [Value.ownBlock] using e); omega); have hS2 : Below (w.heap.size + 1) w0 w2 := hT2.mono (by omega); have hz2' := hT2.size; have hO2 : Blk w2 (w0.heap.size + 1) 73 #[.int .i64 t.due, .int .i64 t.x] := N2.out.grown hgrow2 (by simp [Value.ownBlock]))
      | (refine step_append2 _ rfl _ _ 55 rfl w0.heap.size 73 i0 (.agg #[.int .i64 0, .int .i64 0]) 2 16 Try.underlying55 hi0 hz0 hz1 hz2 rfl (by decide) (.slice (some ⟨w0.heap.size + 1, 0, none⟩) 0 0) 0 [] ?_ (O3.out) ad n cap (d.flatMap encW) ?_ hl2 hnone2 (fun x e => HN.out _ ((L2.out _ _).mono (by omega)) x e) (flatW_one d) (by unfold maxLen; omega) (by omega) ((L2.out _ _).size) ?_; (focus (simp [Act.eval, Act.put])); (focus (simp [Act.eval, Act.put])); intro v2 w2 hown2 hgrow2 hsame2; have hT2 : Below w0.heap.size w0 w2 := grown_below (L2.out _ _) hgrow2 ((L2.out _ _).size) (fun k e => by have : w0.heap.size + 1 = k := (by simpa [Value.ownBlock] using e); omega); have hS2 : Below (w.heap.size + 1) w0 w2 := hT2.mono (by omega); have hz2' := hT2.size; have hO2 : Blk w2 w0.heap.size 73 #[.int .i64 t.due, .int .i64 t.x] := N3.out.grown hgrow2 (by simp [Value.ownBlock]))
      | (refine step_append2 _ rfl _ _ 55 rfl w0.heap.size 73 i0 (.agg #[.int .i64 0, .int .i64 0]) 2 16 Try.underlying55 hi0 hz0 hz1 hz2 rfl (by decide) v2 (0 + n) ([] ++ d.flatMap encW) ?_ (World.ownsRow.alloc hown2 _) (some ⟨w2.heap.size, 0, none⟩) 1 1 (encW t) ?_ rfl (fun e => by cases e) (fun x e => by cases e; exact news_blk (Blk.new _ _ _)) (encW_one t) (by unfold maxLen; omega) (by omega) (by first | exact hz2' | (simp; omega)) ?_; (focus (simp [Act.eval, Act.put])); (focus (simp [Act.eval, Act.put])); intro v3 w3 hown3 hgrow3 hsame3; have hT3 : Below w0.heap.size w0 w3 := grown_below (by first | exact hT2 | exact hT2.alloc hz2' _) hgrow3 (by first | exact hz2' | (simp; omega)) (fun k e => own_ge hown2 e); have hS3 : Below (w.heap.size + 1) w0 w3 := hT3.mono (by omega); obtain ⟨y0, y1, y2, y3⟩ := HY.out w3 hT3; obtain ⟨ad3, cap3, rfl, -⟩ := Own.shape hown3)
      | (refine step_append2 _ rfl _ _ 55 rfl w0.heap.size 73 i0 (.agg #[.int .i64 0, .int .i64 0]) 2 16 Try.underlying55 hi0 hz0 hz1 hz2 rfl (by decide) v2 (0 + n) ([] ++ d.flatMap encW) ?_ (hown2) (some ⟨w0.heap.size + 1, 0, none⟩) 1 1 (encW t) ?_ rfl (fun e => by cases e) (fun x e => by cases e; exact news_blk hO2) (encW_one t) (by unfold maxLen; omega) (by omega) (by first | exact hz2' | (simp; omega)) ?_; (focus (simp [Act.eval, Act.put])); (focus (simp [Act.eval, Act.put])); intro v3 w3 hown3 hgrow3 hsame3; have hT3 : Below w0.heap.size w0 w3 := grown_below (by first | exact hT2 | exact hT2.alloc hz2' _) hgrow3 (by first | exact hz2' | (simp; omega)) (fun k e => own_ge hown2 e); have hS3 : Below (w.heap.size + 1) w0 w3 := hT3.mono (by omega); obtain ⟨y0, y1, y2, y3⟩ := HY.out w3 hT3; obtain ⟨ad3, cap3, rfl, -⟩ := Own.shape hown3)
      | (refine step_append2 _ rfl _ _ 55 rfl w0.heap.size 73 i0 (.agg #[.int .i64 0, .int .i64 0]) 2 16 Try.underlying55 hi0 hz0 hz1 hz2 rfl (by decide) v2 (0 + n) ([] ++ d.flatMap encW) ?_ (hown2) (some ⟨w0.heap.size, 0, none⟩) 1 1 (encW t) ?_ rfl (fun e => by cases e) (fun x e => by cases e; exact news_blk hO2) (encW_one t) (by unfold maxLen; omega) (by omega) (by first | exact hz2' | (simp; omega)) ?_; (focus (simp [Act.eval, Act.put])); (focus (simp [Act.eval, Act.put])); intro v3 w3 hown3 hgrow3 hsame3; have hT3 : Below w0.heap.size w0 w3 := grown_below (by first | exact hT2 | exact hT2.alloc hz2' _) hgrow3 (by first | exact hz2' | (simp; omega)) (fun k e => own_ge hown2 e); have hS3 : Below (w.heap.size + 1) w0 w3 := hT3.mono (by omega); obtain ⟨y0, y1, y2, y3⟩ := HY.out w3 hT3; obtain ⟨ad3, cap3, rfl, -⟩ := Own.shape hown3))
  all_goals
    rename_i hHeld
    clear hHeld
    refine NoPanic.normal ?_
    obtain ⟨r0, r1⟩ := setC2 (u0 := .slice ad3 (n + 1) cap3) (u1 := .int .i64 most) y0 y1
    simp only [Nat.zero_add, List.nil_append] at hown3
    go_wp2_with fail
    refine bodyPost_ret (v := .tuple #[.agg #[.slice ad3 (n + 1) cap3, .int .i64 most], .bool true]) (by simp [results, Try.results30, go_sem, r0, r1]) rfl ?_
    exact HP.out _ w3 _ hown3 hT3 rfl
end Go.Proofs.Ytliblcjfccijjaa.AgdR
