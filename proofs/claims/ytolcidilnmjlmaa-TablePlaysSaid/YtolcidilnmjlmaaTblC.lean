/- Contracts of package table (layer 7): where a key stands in a table. -/
import Derived.Test.YtolcidilnmjlmaaTblB
namespace Go.Proofs.Ytolcidilnmjlmaa.TblL
open Go.ChangeShapes Go.WideShapes Go.ChangeAt Go.RowKit Go.Sort
open Go.Proofs.Ytolcidilnmjlmaa.Key Go.Proofs.Ytolcidilnmjlmaa.Rw Go.Proofs.Ytolcidilnmjlmaa.Tbl
set_option linter.unusedVariables false
theorem gr_blk {w w' : World} {g : Nat} {t : TypeId} {cs : Array Value} (h : Blk w g t cs) (hG : Gr w w') : Blk w' g t cs := h.below hG.below
/-- The closure of place: is a key ahead of a piece's first one? -/
theorem place1_any (k : Ky) (g kb tb : Nat) (F : Nat → Prop) (mv rv ov : Value) (ks : List Ky) (w : World) (hne : ks ≠ []) (hO : Ord w ov ks F) (hB : Blk w g 61 #[mv, rv, ov])
    (hk : Rw.At enc w kb 0 k) (hkb : kb < w.heap.size) (ht : w.cell? ⟨tb, 0, none⟩ = some (.pointer (some ⟨g, 0, none⟩))) (htb : tb < w.heap.size) :
    Calls Try.prog 58 #[.int .i64 0, .pointer (some ⟨kb, 0, none⟩), .pointer (some ⟨tb, 0, none⟩)] w fun e w' => e = .returned (.bool (ltK k (ks.getD 0 default))) ∧ Gr w w' := by
  obtain ⟨ob, oc, pb, pc, rfl, hoc, hof, hP, hob, hpb, -, -, -⟩ := hO.first hne
  have hpos : 0 < ks.length := List.length_pos_iff.2 hne
  obtain ⟨b, off, e, hb, hc⟩ := (hP.rd enc_len).1.at_ (i := 0) hpos
  obtain ⟨rfl, rfl⟩ : pb = b ∧ 0 = off := by simpa using e
  have CC := Lib.hid (fun y W => (show Calls Try.prog 59 #[kval k, kval y] W (fun e w' => e = .returned (.bool (ltK k y)) ∧ Gr W w') from less_gr k y W))
  have CCm := Lib.hid (CC.out (ks.getD 0 default))
  clear hO CC
  generalize ks.getD 0 default = y at *
  have HC : Hid (∀ W, Gr w W → (W.cell? ⟨kb, 0, none⟩ = some (.int .i64 k.1) ∧ W.cell? ⟨kb, 1, none⟩ = some (.int .i64 k.2.1) ∧ W.cell? ⟨kb, 2, none⟩ = some (.int .u32 k.2.2)) ∧
      (W.cell? ⟨pb, 0, none⟩ = some (.int .i64 y.1) ∧ W.cell? ⟨pb, 1, none⟩ = some (.int .i64 y.2.1) ∧ W.cell? ⟨pb, 2, none⟩ = some (.int .u32 y.2.2)) ∧
      W.cell? ⟨tb, 0, none⟩ = some (.pointer (some ⟨g, 0, none⟩)) ∧ W.cell? ⟨g, 2, none⟩ = some (.slice (some ⟨ob, 0, none⟩) 1 oc) ∧ W.cell? ⟨ob, 0, none⟩ = some (.slice (some ⟨pb, 0, none⟩) ks.length pc)) := Lib.hid (fun W hW => by
    have hBW := hW.below
    have h3 := at3 (hk.below hBW hkb)
    have h4 := at3 (hc.below hBW hb)
    simp only [Nat.zero_add, Nat.zero_mul] at h3 h4
    exact ⟨h3, h4, (hBW.cell (p := ⟨tb, 0, none⟩) htb).trans ht, (hB.below hBW).cell 2, (hBW.cell (p := ⟨ob, 0, none⟩) hob).trans hoc⟩)
  obtain ⟨p, q, s⟩ := k
  obtain ⟨a, b', c⟩ := y
  unfold kval at CCm
  simp only at CCm HC
  clear hk hc hB ht hoc hP
  generalize ltK (p, q, s) (a, b', c) = r at *
  obtain ⟨⟨c0, c1, c2⟩, ⟨d0, d1, d2⟩, e0, e1, e2⟩ := HC.out w (Gr.refl w)
  generalize ks.length = n at *
  have hn0 : (0 : Int) < (n : Int) := by omega
  go_enter Try.func58, Try.ntmps58
  go_wp2_with fail
  refine wp_region_noPanic ?_
  go_region_held_law (fun W => Gr w W ∧ (W.cell? ⟨kb, 0, none⟩ = some (.int .i64 p) ∧ W.cell? ⟨kb, 1, none⟩ = some (.int .i64 q) ∧ W.cell? ⟨kb, 2, none⟩ = some (.int .u32 s)) ∧
      (W.cell? ⟨pb, 0, none⟩ = some (.int .i64 a) ∧ W.cell? ⟨pb, 1, none⟩ = some (.int .i64 b') ∧ W.cell? ⟨pb, 2, none⟩ = some (.int .u32 c)) ∧
      W.cell? ⟨tb, 0, none⟩ = some (.pointer (some ⟨g, 0, none⟩)) ∧ W.cell? ⟨g, 2, none⟩ = some (.slice (some ⟨ob, 0, none⟩) 1 oc) ∧ W.cell? ⟨ob, 0, none⟩ = some (.slice (some ⟨pb, 0, none⟩) n pc))
    ((refine ⟨?_, HC.out _ ?_⟩ <;> (repeat' (first | assumption | exact Gr.refl _ | exact (‹Gr w _ ∧ _›).1 | refine Gr.drew ?_ | (refine Gr.trans ?_ (by assumption))))))
    ((go_at_call 59; refine (CCm.out _).mono ?_; rintro e w7 ⟨rfl, hG7⟩))
  rename_i hHeld
  obtain ⟨hG8, -⟩ := hHeld
  have HG8 := Lib.hid hG8
  clear hG8 c0 c1 c2 d0 d1 d2 e0 e1 e2
  refine NoPanic.normal ?_
  go_wp2_with fail
  go_ret
  exact ⟨rfl, HG8.out⟩
theorem place_any (k : Ky) (g : Nat) (F : Nat → Prop) (mv rv ov : Value) (ks : List Ky) (w : World) (hne : ks ≠ []) (hl : ks.length ≤ 1000000) (hs : Str ks) (hO : Ord w ov ks F) (hB : Blk w g 61 #[mv, rv, ov]) :
    Calls Try.prog 46 #[.pointer (some ⟨g, 0, none⟩), kval k] w fun e w' => e = .returned (.tuple #[.int .i64 0, .int .i64 (pos ks k : Nat)]) ∧ Gr w w' := by
  obtain ⟨w0, hw0⟩ : ∃ w0, Hid (w0 = (w.alloc (.cells #[.pointer (some ⟨g, 0, none⟩)] 23)).alloc (.cells #[.int .i64 k.1, .int .i64 k.2.1, .int .u32 k.2.2] 34)) := ⟨_, Lib.hid rfl⟩
  have HG0 : Hid (Gr w w0) := Lib.hid (by rw [hw0.out]; exact ((Gr.refl w).alloc _).alloc _)
  have hsz0 : w0.heap.size = w.heap.size + 2 := by rw [hw0.out, World.size_alloc, World.size_alloc]
  have HX : Hid (Rw.At enc w0 (w.heap.size + 1) 0 k) := Lib.hid (by
    rw [hw0.out]
    have := Rw.At.box (enc := enc) (e := 34) (w.alloc (.cells #[.pointer (some ⟨g, 0, none⟩)] 23)) k #[.int .i64 k.1, .int .i64 k.2.1, .int .u32 k.2.2] rfl
    rw [World.size_alloc] at this
    exact this)
  have HT : Hid (w0.cell? ⟨w.heap.size, 0, none⟩ = some (.pointer (some ⟨g, 0, none⟩))) := Lib.hid (by
    rw [hw0.out]
    exact ((Blk.new w 23 #[.pointer (some ⟨g, 0, none⟩)]).alloc _).cell 0)
  have hO0 := hO.kept HG0.out.below.size (fun j _ hj => HG0.out.below.block j hj)
  have hB0 := hB.below HG0.out.below
  obtain ⟨ob, oc, pb, pc, rfl, hoc, hof, hP, hob, hpb, -, -, -⟩ := hO0.first hne
  have CS : Hid (∀ W, Gr w0 W → Calls Try.prog 57 #[.int .i64 1, .func (.func 58) #[] #[.pointer (some ⟨w.heap.size + 1, 0, none⟩), .pointer (some ⟨w.heap.size, 0, none⟩)]] W fun e w' => e = .returned (.int .i64 (b01 (ltK k (ks.getD 0 default)))) ∧ Gr W w') := Lib.hid (fun W hW => by
    refine search1 _ _ _ W (enters_of Try.func58 (by kernel_rfl) rfl) (fun W2 hW2 => ?_)
    have hB2 := (hW.trans hW2).below
    have h4 := place1_any k g (w.heap.size + 1) w.heap.size F mv rv _ ks W2 hne (hO0.kept hB2.size (fun j _ hj => hB2.block j hj)) (hB0.below hB2) (HX.out.below hB2 (by omega)) (by have := hB2.size; omega) ((hB2.cell (p := ⟨w.heap.size, 0, none⟩) (by show w.heap.size < _; omega)).trans HT.out) (by have := hB2.size; omega)
    exact h4.mono (fun e w' h => ⟨h.1, hW2.trans h.2⟩))
  have CB : Hid (∀ W, Gr w0 W → Calls Try.prog 60 #[.slice (some ⟨pb, 0, none⟩) ks.length pc, kval k, .func (.func 61) #[] #[]] W fun e w' => (∃ b, e = .returned (.tuple #[.int .i64 (pos ks k : Nat), .bool b])) ∧ Gr W w') :=
    Lib.hid (fun W hW => bsearch_any _ _ pc ks k W rfl hl (((hP.rd enc_len).1).below hW.below) hs)
  have HC : Hid (∀ W, Gr w0 W → (W.cell? ⟨w.heap.size + 1, 0, none⟩ = some (.int .i64 k.1) ∧ W.cell? ⟨w.heap.size + 1, 1, none⟩ = some (.int .i64 k.2.1) ∧ W.cell? ⟨w.heap.size + 1, 2, none⟩ = some (.int .u32 k.2.2)) ∧
      W.cell? ⟨w.heap.size, 0, none⟩ = some (.pointer (some ⟨g, 0, none⟩)) ∧ W.cell? ⟨g, 2, none⟩ = some (.slice (some ⟨ob, 0, none⟩) 1 oc) ∧ W.cell? ⟨ob, 0, none⟩ = some (.slice (some ⟨pb, 0, none⟩) ks.length pc)) := Lib.hid (fun W hW => by
    have hBW := hW.below
    have h3 := at3 (HX.out.below hBW (by omega))
    simp only [Nat.zero_add] at h3
    exact ⟨h3, (hBW.cell (p := ⟨w.heap.size, 0, none⟩) (by show w.heap.size < _; omega)).trans HT.out, (hB0.below hBW).cell 2, (hBW.cell (p := ⟨ob, 0, none⟩) hob).trans hoc⟩)
  have hb01 : max (b01 (ltK k (ks.getD 0 default)) - 1) 0 = 0 := by unfold b01; split <;> decide
  have hwr : IntKind.i64.wrap (b01 (ltK k (ks.getD 0 default)) - 1) = b01 (ltK k (ks.getD 0 default)) - 1 := by unfold b01; split <;> decide
  clear hO hB hO0 hB0 hoc hof hP hs hl hne hob hpb
  generalize b01 (ltK k (ks.getD 0 default)) = r at *
  generalize pos ks k = n at *
  generalize ks.length = len at *
  obtain ⟨p, q, s⟩ := k
  unfold kval at *
  simp only at hw0 HC CB
  obtain ⟨⟨c0, c1, c2⟩, d0, d1, d2⟩ := HC.out w0 (Gr.refl w0)
  go_enter Try.func46, Try.ntmps46
  go_upto_region 1 with fail
  rw [← hw0.out]
  go_wp2_with fail
  refine (CS.out _ (Gr.refl _)).mono ?_; rintro e w1 ⟨rfl, hG1⟩
  clear c0 c1 c2 d0 d1 d2
  obtain ⟨⟨c0, c1, c2⟩, d0, d1, d2⟩ := HC.out w1 hG1
  have HG1 := Lib.hid hG1
  clear hG1
  go_wp2_with fail
  refine wp_region_noPanic ?_
  go_region_held_law (fun W => Gr w0 W ∧ (W.cell? ⟨w.heap.size + 1, 0, none⟩ = some (.int .i64 p) ∧ W.cell? ⟨w.heap.size + 1, 1, none⟩ = some (.int .i64 q) ∧ W.cell? ⟨w.heap.size + 1, 2, none⟩ = some (.int .u32 s)) ∧
      W.cell? ⟨w.heap.size, 0, none⟩ = some (.pointer (some ⟨g, 0, none⟩)) ∧ W.cell? ⟨g, 2, none⟩ = some (.slice (some ⟨ob, 0, none⟩) 1 oc) ∧ W.cell? ⟨ob, 0, none⟩ = some (.slice (some ⟨pb, 0, none⟩) len pc))
    ((refine ⟨?_, HC.out _ ?_⟩ <;> (repeat' (first | assumption | exact HG1.out | exact (‹Gr w0 _ ∧ _›).1 | refine Gr.drew ?_ | (refine Gr.trans ?_ (by assumption))))))
    ((go_at_call 60; refine (CB.out _ ?_).mono ?_; (focus (first | assumption | exact (‹Gr w0 _ ∧ _›).1 | exact HG1.out | exact HG1.out.drew)); rintro e w7 ⟨⟨bx, rfl⟩, hG7⟩))
  rename_i hHeld
  obtain ⟨hG8, -⟩ := hHeld
  have HG8 := Lib.hid (HG0.out.trans hG8)
  clear hG8 c0 c1 c2 d0 d1 d2
  refine NoPanic.normal ?_
  go_wp2_with fail
  go_ret2
  exact ⟨rfl, HG8.out⟩
end Go.Proofs.Ytolcidilnmjlmaa.TblL
