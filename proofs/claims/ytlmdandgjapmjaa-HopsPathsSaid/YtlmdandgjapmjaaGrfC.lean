/- Contracts of package graph (layer 16): two nodes are linked. -/
import Derived.Test.YtlmdandgjapmjaaGrfB
namespace Go.Proofs.Ytlmdandgjapmjaa.Grf
open Go.ChangeShapes Go.WideShapes Go.ChangeAt Go.RowKit
set_option linter.unusedVariables false
theorem cells_link {n b x y : Nat} {L : List Pr} (hx : x < 64) (hy : y < 64) (hne : x ≠ y) :
    gcells n b (L ++ [((x : Int), (y : Int))]) = ((gcells n b L).setIfInBounds (2 + x) (.int .u64 ((Nodes.withN (nearP L (x : Int)) [(y : Int)] : Nat) : Int))).setIfInBounds (2 + y) (.int .u64 ((Nodes.withN (nearP L (y : Int)) [(x : Int)] : Nat) : Int)) := by
  have hxy : (x : Int) ≠ (y : Int) := by omega
  apply Array.ext_getElem?
  intro i
  rw [Array.getElem?_setIfInBounds, Array.getElem?_setIfInBounds]
  have hs : ∀ M : List Pr, (gcells n b M).size = 66 := fun M => by simp [gcells, nears]
  simp only [Array.size_setIfInBounds, hs]
  by_cases h1 : 2 + y = i
  · subst h1
    rw [if_pos rfl, if_pos (by omega), gcells_near _ _ _ _ hy, near_two hxy]
  · rw [if_neg h1]
    by_cases h2 : 2 + x = i
    · subst h2
      rw [if_pos rfl, if_pos (by omega), gcells_near _ _ _ _ hx, near_one hxy]
    · rw [if_neg h2]
      by_cases h3 : i < 2
      · rcases i with _ | _ | i
        · simp [gcells]
        · simp [gcells]
        · omega
      · obtain ⟨k, rfl⟩ : ∃ k, i = 2 + k := ⟨i - 2, by omega⟩
        by_cases h4 : k < 64
        · rw [gcells_near _ _ _ _ h4, gcells_near _ _ _ _ h4, near_else (by omega) (by omega)]
        · rw [Array.getElem?_eq_none (by rw [hs]; omega), Array.getElem?_eq_none (by rw [hs]; omega)]
theorem gmap_snoc (L : List Pr) (x y : Int) : Tb.upd (gmap L) (min x y, max x y) (.agg #[]) = gmap (L ++ [(x, y)]) := by
  funext p
  obtain ⟨a, b⟩ := p
  unfold Tb.upd gmap
  by_cases h : (a, b) = ((min x y, max x y) : Pr)
  · rw [if_pos h]
    rw [Prod.mk.injEq] at h
    obtain ⟨rfl, rfl⟩ := h
    rw [if_pos ⟨by simp only; omega, by rw [lk_minmax, lk_snoc]; simp⟩]
  · rw [if_neg h]
    have he : a ≤ b → lk (L ++ [(x, y)]) a b = lk L a b := fun hab => by
      rw [lk_snoc]
      have hh : ((x == a && y == b) || (x == b && y == a)) = false := by
        rw [Bool.eq_false_iff]
        simp only [ne_eq, Bool.or_eq_true, Bool.and_eq_true, beq_iff_eq]
        rw [Prod.mk.injEq] at h
        omega
      simp only [hh, Bool.or_false]
    by_cases hab : a ≤ b
    · simp only [he hab]
    · rw [if_neg (fun hh => hab hh.1), if_neg (fun hh => hab hh.1)]
/-- What may be touched when two are linked. -/
def FG (g b : Nat) : Nat → Prop := fun k => k = g ∨ k = b
/-- On the way. -/
structure LM (w : World) (g b m : Nat) (gm : Pr → Option Value) (cs : Array Value) (W : World) : Prop where
  blk : Rw.Blk W g 70 cs
  map : Tb.Is Try.prog 53 pval W b m gm
  stay : Rw.Stay (FG g b) w W
section
variable {w W V : World} {g b m : Nat} {gm : Pr → Option Value} {cs : Array Value}
theorem LM.step (h : LM w g b m gm cs W) (hB : Below W.heap.size W V) : LM w g b m gm cs V :=
  ⟨h.blk.below hB, h.map.below hB, h.stay.snoc (Rw.Stay.of_below (F := FG g b) hB) (fun _ _ e => e)⟩
theorem LM.put (h : LM w g b m gm cs W) (i : Nat) (u : Value) : LM w g b m gm (cs.setIfInBounds i u) (W.setCell ⟨g, i, none⟩ u) := by
  have hne : g ≠ b := by
    rintro rfl
    obtain ⟨es, cl, hes, -⟩ := h.map
    have := h.blk.symm.trans hes
    simp at this
  refine ⟨h.blk.put i u, h.map.of_block (Below.heap_setCell W ⟨g, i, none⟩ u b (by simpa using Ne.symm hne)), h.stay.snoc (Rw.Stay.of_grown (Rw.setCell_grown W g i u) (F := FG g b) (fun k e => .inl (by simpa using e.symm))) (fun _ _ e => e)⟩
end
theorem with_one {S : Nat} (hS : S < 18446744073709551616) (x : Int) (bb : Nat) (W : World) (hc : W.cell? ⟨bb, 0, none⟩ = some (.int .i64 x)) :
    Calls Try.prog 30 #[.int .u64 S, .slice (some ⟨bb, 0, none⟩) 1 1] W fun e w' => e = .returned (.int .u64 ((Nodes.withN S [x] : Nat) : Int)) ∧ W = w' :=
  Nodes.with_any S hS (some ⟨bb, 0, none⟩) 1 1 [x] W rfl (by omega) (.inr ⟨bb, 0, rfl, fun i hi => by
    obtain rfl : i = 0 := by simpa using hi
    exact hc⟩)
theorem boxed (W V : World) (u : Value) (e : TypeId) (h : Below (W.alloc (.cells #[u] e)).heap.size (W.alloc (.cells #[u] e)) V) : V.cell? ⟨W.heap.size, 0, none⟩ = some u := by
  refine (h.cell (p := ⟨W.heap.size, 0, none⟩) (by rw [World.size_alloc]; exact Nat.lt_succ_self _)).trans ?_
  have h := (MapKept.heap_alloc W (.cells #[u] e)).1
  simp only [World.cell?, h]
  rfl
set_option maxHeartbeats 4000000 in
set_option maxRecDepth 100000 in
theorem link_any (g b n x y : Nat) (L : List Pr) (hx : x < n) (hy : y < n) (hne : x ≠ y) (hl : lk L (x : Int) (y : Int) = false) (hm : L.length < maxLen) (w : World) (h : GR w g b n L) :
    Calls Try.prog 27 #[.pointer (some ⟨g, 0, none⟩), .int .i64 (x : Int), .int .i64 (y : Int)] w
      fun e w' => e = .returned (.tuple #[]) ∧ GR w' g b n (L ++ [((x : Int), (y : Int))]) ∧ Rw.Stay (FG g b) w w' := by
  have hn := h.le
  have hok : Ok n (L ++ [((x : Int), (y : Int))]) := ok_snoc h.ok (wr_zero.2 ⟨by simp only; omega, by simp only; omega, by simp only; omega, by simp only; omega, by simp only; omega, hl⟩)
  obtain ⟨kl, hkl⟩ := key_read (min (x : Int) (y : Int), max (x : Int) (y : Int)) (by unfold inI; simp only; omega) (by unfold inI; simp only; omega)
  have HM0 : Hid (∀ W, Below w.drew.heap.size w.drew W → ∃ w1, (Instr.mapUpdate 65 (.map (some b)) (pval (min (x : Int) (y : Int), max (x : Int) (y : Int))) (.agg #[])).run Try.prog W = .ok () w1 ∧
      W.cell? ⟨g, 1, none⟩ = some (.map (some b)) ∧ w1.cell? ⟨g, 1, none⟩ = some (.map (some b)) ∧ Hid (LM w g b (L.length + 1) (gmap (L ++ [((x : Int), (y : Int))])) (gcells n b L) w1)) := Lib.hid (fun W hB => by
    have hB' : Below w.heap.size w W := (Below.refl _ w).drew.trans hB
    have h1 := h.below hB'
    obtain ⟨w1, e1, hg1, i1⟩ := h1.map.put lawG pval_inj Try.underlying65 hm hkl (by rw [gmap_at, hl]; rfl) (.agg #[])
    rw [gmap_snoc] at i1
    have hb1 := h1.blk.grown hg1 (by simpa using h1.ne)
    refine ⟨w1, e1, h1.c1, ?_, Lib.hid ⟨hb1, i1, ?_⟩⟩
    · have := hb1.cell 1
      simpa [gcells] using this
    · exact (Rw.Stay.of_below (F := FG g b) hB').snoc (Rw.Stay.of_grown hg1 (F := FG g b) (fun k e => .inr (by simpa using e.symm))) (fun _ _ e => e))
  have CP := Lib.hid (fun W => pair_any (x : Int) (y : Int) W)
  have HC1 := Lib.hid (show w.drew.cell? ⟨g, 1, none⟩ = some (.map (some b)) from h.c1)
  have HE := Lib.hid (cells_link (n := n) (b := b) (L := L) (show x < 64 by omega) (show y < 64 by omega) hne)
  have HK := Lib.hid (show gcells n b (L ++ [((x : Int), (y : Int))]) = gcells n b (L ++ [((x : Int), (y : Int))]) from rfl)
  have HOK := Lib.hid hok
  have hn64 := hn
  generalize pval (min (x : Int) (y : Int), max (x : Int) (y : Int)) = pv at *
  generalize hgm : gmap (L ++ [((x : Int), (y : Int))]) = gm at *
  have HGM := Lib.hid hgm
  clear hgm hl hok hkl h HK
  go_enter Try.func27, Try.ntmps27
  go_upto_region 0 with fail
  go_region_held_law (fun W => W.cell? ⟨g, 1, none⟩ = some (.map (some b)))
    ((first | assumption | exact HC1.out))
    ((go_at_call 28; (with_reducible refine (CP.out _).mono ?_); rintro e W ⟨rfl, hBW⟩; obtain ⟨w1, e1, cW, cw1, HM⟩ := HM0.out W hBW))
  clear HM0 CP HC1 cW cw1 e1
  have hcx : w1.cell? ⟨g, 2 + x, none⟩ = some (.int .u64 ((nearP L (x : Int) : Nat) : Int)) := (HM.out.blk.cell _).trans (gcells_near _ _ _ _ (by omega))
  have hfx : w1.frozen? ⟨g, 2 + x, none⟩ = false := HM.out.blk.free _
  have CW := Lib.hid (fun W (hB : Below (w1.alloc (.cells #[.int .i64 (y : Int)] 3)).heap.size (w1.alloc (.cells #[.int .i64 (y : Int)] 3)) W) => with_one (near_lt L (x : Int)) (y : Int) w1.heap.size W (boxed w1 W _ _ hB))
  have HL2 : Hid (∀ W, Below w1.heap.size w1 W → LM w g b (L.length + 1) gm ((gcells n b L).setIfInBounds (2 + x) (.int .u64 ((Nodes.withN (nearP L (x : Int)) [(y : Int)] : Nat) : Int))) (W.setCell ⟨g, 2 + x, none⟩ (.int .u64 ((Nodes.withN (nearP L (x : Int)) [(y : Int)] : Nat) : Int)))) := Lib.hid (fun W hB => (HM.out.step hB).put _ _)
  have hgw : g ≠ w1.heap.size := by have := HM.out.blk.lt; omega
  have hcx' : (w1.alloc (.cells #[.int .i64 (y : Int)] 3)).cell? ⟨g, 2 + x, none⟩ = some (.int .u64 ((nearP L (x : Int) : Nat) : Int)) := (((Below.refl w1.heap.size w1).alloc (Nat.le_refl _) _).cell (p := ⟨g, 2 + x, none⟩) HM.out.blk.lt).trans hcx
  have hfx' : (w1.alloc (.cells #[.int .i64 (y : Int)] 3)).frozen? ⟨g, 2 + x, none⟩ = false := (HM.out.blk.alloc _).free _
  clear HM
  generalize nearP L (x : Int) = nx at *
  generalize Nodes.withN nx [(y : Int)] = nx2 at *
  go_upto_region 1 with fail
  go_region_with ((go_at_call 30; (with_reducible refine (CW.out _ ?_).mono ?_); (focus exact (Below.refl _ _).drew); rintro e W ⟨rfl, rfl⟩))
  all_goals (
    have HL3 := Lib.hid ((HL2.out _ ((Below.refl w1.heap.size w1).alloc (Nat.le_refl _) (.cells #[.int .i64 (y : Int)] 3))).step (Below.refl _ _).drew)
    clear HL2 CW hcx hfx hgw hcx' hfx'
    generalize World.drew (World.setCell (World.alloc w1 (.cells #[.int .i64 (y : Int)] 3)) ⟨g, 2 + x, none⟩ (.int .u64 (nx2 : Int))) = w2 at *
    have hcy : w2.cell? ⟨g, 2 + y, none⟩ = some (.int .u64 ((nearP L (y : Int) : Nat) : Int)) := (HL3.out.blk.cell _).trans (by rw [Array.getElem?_setIfInBounds_ne (by omega)]; exact gcells_near _ _ _ _ (by omega))
    have hfy : w2.frozen? ⟨g, 2 + y, none⟩ = false := HL3.out.blk.free _
    have CV := Lib.hid (fun W (hB : Below (w2.alloc (.cells #[.int .i64 (x : Int)] 3)).heap.size (w2.alloc (.cells #[.int .i64 (x : Int)] 3)) W) => with_one (near_lt L (y : Int)) (x : Int) w2.heap.size W (boxed w2 W _ _ hB))
    have HL4 := Lib.hid (fun W (hB : Below w2.heap.size w2 W) => (HL3.out.step hB).put (2 + y) (.int .u64 ((Nodes.withN (nearP L (y : Int)) [(x : Int)] : Nat) : Int)))
    have hgw2 : g ≠ w2.heap.size := by have := HL3.out.blk.lt; omega
    have hcy' : (w2.alloc (.cells #[.int .i64 (x : Int)] 3)).cell? ⟨g, 2 + y, none⟩ = some (.int .u64 ((nearP L (y : Int) : Nat) : Int)) := (((Below.refl w2.heap.size w2).alloc (Nat.le_refl _) _).cell (p := ⟨g, 2 + y, none⟩) HL3.out.blk.lt).trans hcy
    have hfy' : (w2.alloc (.cells #[.int .i64 (x : Int)] 3)).frozen? ⟨g, 2 + y, none⟩ = false := (HL3.out.blk.alloc _).free _
    clear HL3
    generalize nearP L (y : Int) = ny at *
    generalize Nodes.withN ny [(x : Int)] = ny2 at *
    go_upto_region 2 with fail
    go_region_with ((go_at_call 30; (with_reducible refine (CV.out _ ?_).mono ?_); (focus exact (Below.refl _ _).drew); rintro e W ⟨rfl, rfl⟩)))
  all_goals (
    have HF := (HL4.out _ ((Below.refl w2.heap.size w2).alloc (Nat.le_refl _) (.cells #[.int .i64 (x : Int)] 3))).step (Below.refl _ _).drew
    have HG := Lib.hid (And.intro (GR.mk (by rw [HE.out]; exact HF.blk) (by rw [HGM.out, List.length_append]; exact HF.map) HOK.out hn64) HF.stay)
    clear HF HL4 CV hcy hfy hgw2 hcy' hfy' HE HGM HOK
    go_wp2_with fail
    go_end0
    exact ⟨rfl, HG.out⟩)
end Go.Proofs.Ytlmdandgjapmjaa.Grf
