/- The document's own answers for layer agenda (8): Take. -/
import Derived.Test.YtliblcjfccijjaaAgdQ
import Derived.Shelf.RegionOpenPlain
namespace Go.Proofs.Ytliblcjfccijjaa.AgdR
open Go.ChangeShapes Go.WideShapes Go.ChangeAt Go.RowKit
open Go.Proofs.Ytliblcjfccijjaa.Rw Go.Proofs.Ytliblcjfccijjaa.Agd
set_option linter.unusedVariables false
set_option linter.unusedSimpArgs false
theorem flatW_take (d : List Th) (i : Nat) : (d.flatMap encW).take (i * 2) = (d.take i).flatMap encW := by
  induction d generalizing i with
  | nil => simp
  | cons a d ih =>
    cases i with
    | zero => simp
    | succ i =>
      rw [List.flatMap_cons, List.take_append, List.take_succ_cons, List.flatMap_cons, encW_len]
      rw [List.take_of_length_le (by rw [encW_len]; omega), show (i + 1) * 2 - 2 = i * 2 by omega, ih]
theorem flatW_drop (d : List Th) (i : Nat) : (d.flatMap encW).drop (i * 2) = (d.drop i).flatMap encW := by
  induction d generalizing i with
  | nil => simp
  | cons a d ih =>
    cases i with
    | zero => simp
    | succ i =>
      rw [List.flatMap_cons, List.drop_append, List.drop_succ_cons, encW_len, List.drop_of_length_le (by rw [encW_len]; omega), show (i + 1) * 2 - 2 = i * 2 by omega, ih]
      rfl
set_option maxRecDepth 100000 in
set_option maxHeartbeats 4000000 in
theorem rtake_any (now : Int) (ad : Option Addr) (n cap : Nat) (most : Int) (d : List Th) (w : World) (hn : d.length = n) (hm : n ≤ 100000) (hr : RdR w ad d) (hc : n ≤ cap) (hcm : cap ≤ 9223372036854775807) (hcan : can d now = true) :
    Calls Try.prog 33 #[aval ad n cap most, .int .i64 now] w (NewR (tk d) most #[.int .i64 (Agd.hd d).x, .bool true] w) := by
  obtain ⟨i0, hi0, hz0, hz1, hz2⟩ := info_parts infoW
  obtain ⟨hdn, hdue⟩ := can_true hcan
  obtain ⟨i, hid⟩ : ∃ i, i = fi d := ⟨_, rfl⟩
  have hi : i < n := by rw [hid, ← hn]; exact fi_lt hdn
  have hfI : fiI d = (i : Int) := by unfold fiI; rw [if_neg hdn, hid]
  have hgi : gt d i = Agd.hd d := by rw [hid]; rfl
  obtain ⟨b, off, rfl, hbw, -⟩ := hr.at_ (i := i) (by omega)
  have hcells : ∀ j, j < d.length → Rw.At encW w b (off + j * 2) (d.getD j default) := fun j hj => by
    obtain ⟨b2, off2, e, -, h⟩ := hr.at_ (i := j) hj
    simp at e
    obtain ⟨rfl, rfl⟩ := e
    exact h
  obtain ⟨wz, hv0⟩ : ∃ wz, Hid (wz = (w.alloc (.cells #[.slice (some ⟨b, off, none⟩) n cap, .int .i64 most] 57)).alloc (.cells #[.slice none 0 0, .int .i64 0] 57)) := ⟨_, Lib.hid rfl⟩
  have hBv : Below w.heap.size w wz := by rw [hv0.out]; exact (box_below _ _).alloc (by simp) _
  have hszv : wz.heap.size = w.heap.size + 2 := by rw [hv0.out, World.size_alloc, World.size_alloc]
  have bv0 : Blk wz w.heap.size 57 #[.slice (some ⟨b, off, none⟩) n cap, .int .i64 most] := by rw [hv0.out]; exact (Blk.new w _ _).alloc _
  have bv1 : Blk wz (w.heap.size + 1) 57 #[.slice none 0 0, .int .i64 0] := by
    rw [hv0.out]
    have := Blk.new (w.alloc (.cells #[.slice (some ⟨b, off, none⟩) n cap, .int .i64 most] 57)) 57 #[.slice none 0 0, .int .i64 0]
    rw [World.size_alloc] at this
    exact this
  have CF := Lib.hid (rfirst_any (some ⟨b, off, none⟩) n cap most d wz hn (by omega) (hr.below hBv))
  rw [hfI] at CF
  have HV : Hid (wz.cell? ⟨w.heap.size, 0, none⟩ = some (.slice (some ⟨b, off, none⟩) n cap) ∧ wz.cell? ⟨w.heap.size, 1, none⟩ = some (.int .i64 most)) := Lib.hid ⟨bv0.cell 0, bv0.cell 1⟩
  have HI : Hid (∀ w1, Below wz.heap.size wz w1 → w1.heap.size ≥ w.heap.size + 2 ∧ Below w.heap.size w w1 ∧ Blk w1 w.heap.size 57 #[.slice (some ⟨b, off, none⟩) n cap, .int .i64 most] ∧ Blk w1 (w.heap.size + 1) 57 #[.slice none 0 0, .int .i64 0] ∧
      w1.cell? ⟨b, off + i * 2, none⟩ = some (.int .i64 (Agd.hd d).due) ∧ w1.cell? ⟨b, off + i * 2 + 1, none⟩ = some (.int .i64 (Agd.hd d).x)) := Lib.hid (fun w1 hB => by
    have hs := hB.size
    have hB1 := hBv.trans (hB.mono (by omega))
    have hx := at2 ((hcells i (by omega)).below hB1 hbw)
    have e : d.getD i default = Agd.hd d := hgi
    rw [e] at hx
    exact ⟨by omega, hB1, bv0.below hB, bv1.below hB, hx.1, hx.2⟩)
  have htk : tk d = d.take i ++ d.drop (i + 1) := by unfold tk; rw [← hid, List.eraseIdx_eq_take_drop_succ]
  have htl : (tk d).length = i + (n - (i + 1)) := by have := tk_len hdn; omega
  obtain ⟨vx, hvx⟩ : ∃ vx, (Agd.hd d).x = vx := ⟨_, rfl⟩
  obtain ⟨vd, hvd⟩ : ∃ vd, (Agd.hd d).due = vd := ⟨_, rfl⟩
  rw [hvx, hvd] at HI
  rw [hvd] at hdue
  have t1 : decide (vd > now) = false := by simp; omega
  have t2 : decide (now < vd) = false := by simp; omega
  rw [hvx]
  obtain ⟨c0, c1⟩ := HV.out
  clear hfI hgi bv0 bv1 hBv hvx hvd hid hcan hdue hdn
  unfold aval
  go_enter Try.func33, Try.ntmps33
  go_upto_region 1 with fail
  rw [← hv0.out]
  go_wp2_with fail
  refine (CF.out).mono ?_; rintro e w1 ⟨rfl, hB1⟩
  obtain ⟨hsz, hB0c, b0, b1, x0, x1⟩ := HI.out w1 hB1
  clear c0 c1
  have h0 : OwnR (w1.alloc (.cells #[] 73)) w1.heap.size (.slice (some ⟨w1.heap.size, 0, none⟩) 0 0) [] := Rw.OwnS.lit w1 [] encW_len (by unfold maxLen; simp)
  -- the cells that are read, in whatever world that keeps what lay ahead
  have HS : Hid (∀ W, Below w1.heap.size w1 W → (∀ j u, ((d.take i).flatMap encW)[j]? = some u → W.cell? ((⟨b, off, none⟩ : Addr).add j) = some u) ∧ (∀ j u, ((d.drop (i + 1)).flatMap encW)[j]? = some u → W.cell? ((⟨b, off + (i + 1) * 2, none⟩ : Addr).add j) = some u) ∧
      (W.cell? ⟨w.heap.size, 0, none⟩ = some (.slice (some ⟨b, off, none⟩) n cap) ∧ W.cell? ⟨w.heap.size, 1, none⟩ = some (.int .i64 most)) ∧ Blk W (w.heap.size + 1) 57 #[.slice none 0 0, .int .i64 0]) := Lib.hid (fun W hB => by
    have hk : ∀ j u, (d.flatMap encW)[j]? = some u → W.cell? ⟨b, off + j, none⟩ = some u := fun j u hu => ((hB0c.trans (hB.mono (by omega))).cell (p := ⟨b, off + j, none⟩) hbw).trans (rd_flat hcells j u hu)
    refine ⟨fun j u hu => ?_, fun j u hu => ?_, ⟨(b0.below hB).cell 0, (b0.below hB).cell 1⟩, b1.below hB⟩
    · rw [Addr.add_lit]
      refine hk j u ?_
      rw [← flatW_take, List.getElem?_take] at hu
      split at hu
      · exact hu
      · cases hu
    · rw [Addr.add_lit, Nat.add_assoc]
      refine hk _ u ?_
      rw [← flatW_drop, List.getElem?_drop] at hu
      exact hu)
  have HP : Hid (∀ v2 w2 W, w2.ownsRow w1.heap.size 73 2 v2 (i + (n - (i + 1))) ((d.take i).flatMap encW ++ (d.drop (i + 1)).flatMap encW) → Below w1.heap.size w1 w2 → W = (w2.setCell ⟨w.heap.size + 1, 0, none⟩ v2).setCell ⟨w.heap.size + 1, 1, none⟩ (.int .i64 most) → NewR (tk d) most #[.int .i64 vx, .bool true] w (.returned (.tuple #[.agg #[v2, .int .i64 most], .int .i64 vx, .bool true])) W) := Lib.hid (fun v2 w2 W h2 hB hW => by
    have hl : (tk d).length = i + (n - (i + 1)) := htl
    have ho : OwnR w2 w1.heap.size v2 (tk d) := by
      unfold OwnR OwnS
      rw [hl]
      rw [htk, List.flatMap_append]
      exact h2
    have hsh : ∃ ad' cap', v2 = .slice ad' (tk d).length cap' := by
      obtain ⟨ad', cap', e, -⟩ := Own.shape ho
      exact ⟨ad', cap', e⟩
    obtain ⟨ad', cap', rfl⟩ := hsh
    have hBW : Below w.heap.size w W := by
      rw [hW]
      exact (((hB0c.trans (hB.mono (by omega))).setCell (p := ⟨w.heap.size + 1, 0, none⟩) (by simp) _).setCell (p := ⟨w.heap.size + 1, 1, none⟩) (by simp) _)
    refine ⟨ad', cap', rfl, ?_, hBW⟩
    rw [hW]
    have hbb := (b1.below hB)
    have hne := own_ne ho hbb (by decide)
    have k1 := World.ownsRow.kept ho (setCell_grown w2 (w.heap.size + 1) 0 (.slice ad' (tk d).length cap')) (.inr hne)
    have k2 := World.ownsRow.kept k1 (setCell_grown _ (w.heap.size + 1) 1 (.int .i64 most)) (.inr hne)
    exact Own.mono k2 (by omega))
  have HG : Hid (∀ (w2 w3 : World) (v : Value), Below w1.heap.size w1 w2 → (∀ k, v.ownBlock = some k → w1.heap.size ≤ k) → w2.grownBy w3 v.ownBlock → Below w1.heap.size w1 w3) := Lib.hid (fun w2 w3 v h h1 h2 => h.trans ((Below.refl _ w2).grown h2 h.size (fun k e => h1 k e)))
  have ht4 : ((d.take i).flatMap encW).length = i * 2 := by rw [flatW_len, List.length_take, hn, Nat.min_eq_left (by omega)]
  have hd4 : ((d.drop (i + 1)).flatMap encW).length = (n - (i + 1)) * 2 := by rw [flatW_len, List.length_drop, hn]
  have hw1 : IntKind.i64.wrap ((i : Int) + 1) = (i : Int) + 1 := by rw [IntKind.wrap_i64]; omega
  have hb1 : (0 : Int) ≤ (i : Int) + 1 := by omega
  have htn : ((i : Int) + 1).toNat = i + 1 := by omega
  have hb3 : (i : Int) ≤ (cap : Int) := by omega
  have hb4 : (i : Int) + 1 ≤ (n : Int) := by omega
  have hb5 : i + 1 ≤ n := by omega
  have hb6 : i ≤ cap := by omega
  have hB0c' : Below w1.heap.size w1 (w1.alloc (.cells #[] 73)) := box_below _ _
  obtain ⟨e1, -, ⟨c0, c1⟩, -⟩ := HS.out w1 (Below.refl _ _)
  obtain ⟨s1, -, ⟨c2, c3⟩, -⟩ := HS.out _ hB0c'
  clear hr hcells b0 b1 hB0c hn
  go_wp2_with (at_builtin; refine Own.wpList_append2 _ rfl _ _ 55 rfl w1.heap.size 73 i0 (.agg #[.int .i64 0, .int .i64 0]) 2 16 Try.underlying55 hi0 hz0 hz1 hz2 rfl (by decide) _ 0 _ rfl h0 ⟨b, off, none⟩ i cap ((d.take i).flatMap encW) rfl ht4 s1 (flatW_one _) (by unfold maxLen; omega) (by omega) (by simp) ?_; intro v2 w2 hown2 hgrow2 _ hw2)
  have hB2 : Below w1.heap.size w1 w2 := HG.out _ w2 _ hB0c' (fun k e => own_ge h0 e) hgrow2
  have hd2 : w2.ownsRow w1.heap.size 73 2 v2 i ((d.take i).flatMap encW) := by simpa using hown2
  have hsz2 : w1.heap.size ≤ w2.heap.size := hB2.size
  obtain ⟨-, s2, ⟨g0, g1⟩, gb⟩ := HS.out w2 hB2
  have HW : Hid (∀ wa v3 w3, Below w1.heap.size w1 wa → w3.ownsRow w1.heap.size 73 2 v3 (i + (n - (i + 1))) ((d.take i).flatMap encW ++ (d.drop (i + 1)).flatMap encW) → wa.grownBy w3 v2.ownBlock → Below w1.heap.size w1 w3 ∧
      w3.cell? ⟨w.heap.size, 0, none⟩ = some (.slice (some ⟨b, off, none⟩) n cap) ∧ w3.cell? ⟨w.heap.size, 1, none⟩ = some (.int .i64 most) ∧ w3.cell? ⟨w.heap.size + 1, 0, none⟩ = some (.slice none 0 0) ∧ w3.cell? ⟨w.heap.size + 1, 1, none⟩ = some (.int .i64 0) ∧ w3.frozen? ⟨w.heap.size + 1, 0, none⟩ = false ∧ w3.frozen? ⟨w.heap.size + 1, 1, none⟩ = false) := Lib.hid (fun wa v3 w3 ha h3 hg => by
    have hb : Below w1.heap.size w1 w3 := HG.out wa w3 v2 ha (fun k e => own_ge hd2 e) hg
    obtain ⟨-, -, ⟨q0, q1⟩, qb⟩ := HS.out w3 hb
    exact ⟨hb, q0, q1, qb.cell 0, qb.cell 1, qb.free 0, qb.free 1⟩)
  have v0 := gb.cell 0
  have v1 := gb.cell 1
  have x0 := gb.free 0
  have x1 := gb.free 1
  clear s1 e1 c0 c1 c2 c3 hown2 hgrow2 hw2 hB0c' gb HS h0 HG
  by_cases hcap : cap = i + 1
  · subst hcap
    have hnil : (d.drop (i + 1)).flatMap encW = [] := List.eq_nil_of_length_eq_zero (by rw [hd4]; omega)
    obtain rfl : n = i + 1 := by omega
    rw [Nat.sub_self] at hd4 HW HP
    go_region_law (refine step_append2 _ rfl _ _ 55 rfl w1.heap.size 73 i0 (.agg #[.int .i64 0, .int .i64 0]) 2 16 Try.underlying55 hi0 hz0 hz1 hz2 rfl (by decide) v2 i ((d.take i).flatMap encW) ?_ hd2 (some ⟨b, off, none⟩) 0 0 ((d.drop (i + 1)).flatMap encW) ?_ hd4 (fun e => by cases e) (fun ad e => by cases e; exact fun j u hu => by rw [hnil] at hu; cases hu) (flatW_one _) (by unfold maxLen; omega) (by omega) hsz2 ?_; (focus (simp [Act.eval, Act.put])); (focus (simp [Act.eval, Act.put])); intro v3 w3 hown3 hgrow3 _; obtain ⟨ad3, cap3, rfl, -⟩ := Own.shape hown3; obtain ⟨hB3, f0, f1, u0, u1, y0, y1⟩ := HW.out _ _ w3 (by first | exact hB2 | exact hB2.drew) hown3 hgrow3)
    all_goals
      go_wp2_with fail
      obtain ⟨r0, r1⟩ := setC2 (u0 := .slice ad3 i cap3) (u1 := .int .i64 most) u0 u1
      refine bodyPost_ret (v := .tuple #[.agg #[.slice ad3 i cap3, .int .i64 most], .int .i64 vx, .bool true]) (by simp [results, Try.results33, go_sem, r0, r1]) rfl ?_
      exact HP.out _ w3 _ hown3 hB3 rfl
  · have hadd : ((⟨b, off, none⟩ : Addr).add ((i + 1) * 2)) = ⟨b, off + (i + 1) * 2, none⟩ := by rw [Addr.add_lit]
    go_region_law (refine step_append2 _ rfl _ _ 55 rfl w1.heap.size 73 i0 (.agg #[.int .i64 0, .int .i64 0]) 2 16 Try.underlying55 hi0 hz0 hz1 hz2 rfl (by decide) v2 i ((d.take i).flatMap encW) ?_ hd2 (some ⟨b, off + (i + 1) * 2, none⟩) (n - (i + 1)) (cap - (i + 1)) ((d.drop (i + 1)).flatMap encW) ?_ hd4 (fun e => by cases e) (fun ad e => by cases e; exact s2) (flatW_one _) (by unfold maxLen; omega) (by omega) hsz2 ?_; (focus (simp [Act.eval, Act.put])); (focus (simp [Act.eval, Act.put])); intro v3 w3 hown3 hgrow3 _; obtain ⟨ad3, cap3, rfl, -⟩ := Own.shape hown3; obtain ⟨hB3, f0, f1, u0, u1, y0, y1⟩ := HW.out _ _ w3 (by first | exact hB2 | exact hB2.drew) hown3 hgrow3)
    all_goals
      go_wp2_with fail
      obtain ⟨r0, r1⟩ := setC2 (u0 := .slice ad3 (i + (n - (i + 1))) cap3) (u1 := .int .i64 most) u0 u1
      refine bodyPost_ret (v := .tuple #[.agg #[.slice ad3 (i + (n - (i + 1))) cap3, .int .i64 most], .int .i64 vx, .bool true]) (by simp [results, Try.results33, go_sem, r0, r1]) rfl ?_
      exact HP.out _ w3 _ hown3 hB3 rfl
end Go.Proofs.Ytliblcjfccijjaa.AgdR
