/- Contracts for layer key (6): a key's text, the chapter's examples; what the seat's condition on the tables gives. -/
import Derived.Test.YtpfnjippdjhfgaaDoorKeyI
import Derived.Test.YtpfnjippdjhfgaaDoorTie
import Derived.LaidMore
import Derived.MakeChecks
import Derived.Stop.LaidErr
import Derived.Stop.Joined
namespace Go.Proofs.YtpfnjippdjhfgaaDoor.Key
open Go.ChangeShapes Go.WideShapes Go.ChangeAt Go.RowKit
set_option linter.unusedVariables false
def textK (x : Ky) : List UInt8 := Go.Lib.itoa x.1 ++ [46] ++ Go.Lib.itoa x.2.1 ++ [46] ++ Go.Lib.itoa x.2.2
theorem itoa_len {n : Int} (h0 : -9223372036854775808 ≤ n) (h1 : n ≤ 9223372036854775807) : (Go.Lib.itoa n).length ≤ 22 := by
  unfold Go.Lib.itoa
  split
  · have := dec_small (n := n.natAbs) (by omega)
    simp; omega
  · have := dec_small (n := n.toNat) (by omega)
    omega
theorem quiet_same {P : Program} {f : FuncId} {args : Array Value} {w : World} {n : Nat} {v : Value}
    (h : Calls P f args (w.drewN n) fun e w' => e = .returned v ∧ w.drewN n = w') : Calls P f args (w.drewN n) fun e w'' => e = .returned v ∧ ∃ m, w'' = w.drewN m :=
  h.mono fun _ _ ⟨he, hm⟩ => ⟨he, n, hm.symm⟩
theorem rtext_any (x : Ky) (hx : ok x) (w : World) :
    Calls Tryd.prog 24 #[kval x] w fun e w' => e = .returned (.string ⟨(textK x).toArray⟩) ∧ Below w.heap.size w w' := by
  obtain ⟨p, q, s⟩ := x
  unfold ok at hx
  simp only at hx
  have HV := Lib.hid (show textK (p, q, s) = Go.Lib.itoa p ++ [46] ++ Go.Lib.itoa q ++ [46] ++ Go.Lib.itoa s from rfl)
  rw [HV.out]
  clear HV
  have CA := Lib.hid (fun W => rdigits_any p hx.1.1 hx.1.2 W)
  have CB := Lib.hid (fun W => rdigits_any q hx.2.1.1 hx.2.1.2 W)
  have CC := Lib.hid (fun W => rdigits_any s (by omega) (by omega) W)
  have la := itoa_len hx.1.1 hx.1.2
  have lb := itoa_len hx.2.1.1 hx.2.1.2
  have lc := itoa_len (n := s) (by omega) (by omega)
  have hw : IntKind.i64.wrap s = s := by rw [IntKind.wrap_i64]; omega
  generalize Go.Lib.itoa p = a at *
  generalize Go.Lib.itoa q = b at *
  generalize Go.Lib.itoa s = c at *
  obtain ⟨w0, hw0⟩ : ∃ w0, Hid (w0 = w.alloc (.cells #[.int .i64 p, .int .i64 q, .int .u32 s] 24)) := ⟨_, Lib.hid rfl⟩
  have HB0 : Hid (Below w.heap.size w w0) := Lib.hid (by rw [hw0.out]; exact box_below _ _)
  have hX : Rw.At enc w0 w.heap.size 0 (p, q, s) := by rw [hw0.out]; exact Rw.At.box w (p, q, s) _ rfl
  have cc := at3 hX
  simp only [Nat.zero_add] at cc
  obtain ⟨c0, c1, c2⟩ := cc
  clear hX hx
  unfold kval
  go_enter Tryd.func24, Tryd.ntmps24
  go_upto_region 1 with fail
  rw [← hw0.out]
  go_quiet (first | (with_reducible exact quiet_same (CA.out _)) | (with_reducible exact quiet_same (CB.out _)) | (with_reducible exact quiet_same (CC.out _)))
  go_wp2_with fail
  go_ret
  refine ⟨ret_str ?_, HB0.out.trans ((Own.below_drewN (Below.refl _ _) _).mono HB0.out.size)⟩
  simp only [← bytes_append]
theorem infoStr : (Tryd.prog.info? 9).map (fun i => (i.zero, i.size, i.bytes)) = some (some (.string ⟨#[]⟩), 1, 16) := by kernel_rfl
abbrev encS (s : ByteArray) : List Value := [.string s]
abbrev OwnT (w : World) (base : Nat) (v : Value) (l : List ByteArray) : Prop := Rw.OwnS encS 1 9 w base v l
def Tabs (w : World) : Prop := Go.Lib.TabIs Tryd.prog w "internal/strconv.uint64pow10" .u64 Go.Lib.pow10Tab
theorem Tabs.below {w w' : World} (h : Tabs w) (hB : Below w.heap.size w w') : Tabs w' := by
  have hg : Tryd.prog.globalNamed "internal/strconv.uint64pow10" = some 0 := by kernel_rfl
  unfold Tabs Go.Lib.TabIs World.var? at *
  rw [hg] at h ⊢
  simp only [Option.bind_some] at h ⊢
  have hlt : 0 < w.heap.size := by
    rcases Nat.lt_or_ge 0 w.heap.size with h' | h'
    · exact h'
    · rw [Array.getElem?_eq_none h'] at h; cases h
  rw [hB.block _ hlt]
  exact h
theorem fmt_any (n : Int) (h0 : -9223372036854775808 ≤ n) (h1 : n ≤ 9223372036854775807) (w : World) (hT : Tabs w) :
    Calls Tryd.prog 32 #[.int .i64 n, .int .i64 10] w fun e w' => e = .returned (.string ⟨(Go.Lib.itoa n).toArray⟩) ∧ Below w.heap.size w w' :=
  (Tryd.strconv_FormatInt_10 n h0 h1 w hT).mono fun e w' h => ⟨h.1, Gr.below (w := w) h.2⟩
theorem join3 (a b c : List UInt8) : Go.Lib.join ([(⟨a.toArray⟩ : ByteArray), ⟨b.toArray⟩, ⟨c.toArray⟩].map (·.data.toList)) ((⟨#[46]⟩ : ByteArray).data.toList) = a ++ [46] ++ b ++ [46] ++ c := by
  simp [Go.Lib.join, List.intercalate]
theorem index3 (p q s : Int) : (∀ W, (Instr.index 29 (.agg #[.int .i64 p, .int .i64 q, .int .i64 s]) (.int .i64 0)).run Tryd.prog W = .ok (.int .i64 p) W) ∧ (∀ W, (Instr.index 29 (.agg #[.int .i64 p, .int .i64 q, .int .i64 s]) (.int .i64 1)).run Tryd.prog W = .ok (.int .i64 q) W) ∧
    (∀ W, (Instr.index 29 (.agg #[.int .i64 p, .int .i64 q, .int .i64 s]) (.int .i64 2)).run Tryd.prog W = .ok (.int .i64 s) W) := by
  refine ⟨fun W => ?_, fun W => ?_, fun W => ?_⟩ <;> simp [Instr.index, asIntOf, run_underlying Tryd.underlying29, Tryd.sizeOf2, part, Tryd.isAgg2, go_sem]
theorem tstep {W w2 : World} {base : Nat} {v v' : Value} {l : List ByteArray} {y : ByteArray} {tmp : Obj} (hown : OwnT W base v l) (hb : base ≤ W.heap.size)
    (h : w2.ownsRow base 9 1 v' (l.length + 1) (l.flatMap encS ++ [.string y])) (hg : (W.alloc tmp).grownBy w2 v.ownBlock) :
    OwnT w2 base v' (l ++ [y]) ∧ Below base W w2 ∧ base ≤ w2.heap.size :=
  ⟨Rw.OwnS.snoc (enc := encS) (fun _ => rfl) h, Own.below_append hown hb hg, by
    have h1 := hg.size
    rw [World.size_alloc] at h1
    omega⟩
set_option maxRecDepth 100000 in
theorem text_any (x : Ky) (hx : ok x) (w : World) (hT : Tabs w) :
    Calls Tryd.prog 23 #[kval x] w fun e w' => e = .returned (.string ⟨(textK x).toArray⟩) ∧ Below w.heap.size w w' := by
  obtain ⟨i0, hi, hz0, hz1, hz2⟩ := info_parts infoStr
  have CR := Lib.hid (fun W => array_any x hx W)
  obtain ⟨p, q, s⟩ := x
  unfold ok at hx
  simp only at hx CR
  have HV := Lib.hid (show textK (p, q, s) = Go.Lib.itoa p ++ [46] ++ Go.Lib.itoa q ++ [46] ++ Go.Lib.itoa s from rfl)
  rw [HV.out]
  clear HV
  have CA := Lib.hid (fun W => fmt_any p hx.1.1 hx.1.2 W)
  have CB := Lib.hid (fun W => fmt_any q hx.2.1.1 hx.2.1.2 W)
  have CC := Lib.hid (fun W => fmt_any s (by omega) (by omega) W)
  have la := itoa_len hx.1.1 hx.1.2
  have lb := itoa_len hx.2.1.1 hx.2.1.2
  have lc := itoa_len (n := s) (by omega) (by omega)
  generalize Go.Lib.itoa p = a at *
  generalize Go.Lib.itoa q = b at *
  generalize Go.Lib.itoa s = c at *
  have HJ := Lib.hid (join3 a b c)
  obtain ⟨x0, x1, x2⟩ := index3 p q s
  have HLJ : Hid ((a ++ [46] ++ b ++ [46] ++ c).length ≤ 140737488355328) := Lib.hid (by simp only [List.length_append, List.length_cons, List.length_nil]; omega)
  generalize a ++ [46] ++ b ++ [46] ++ c = r at *
  have HB0 : Hid (Below w.heap.size w (w.alloc (.cells #[.int .i64 p, .int .i64 q, .int .u32 s] 24))) := Lib.hid (box_below _ _)
  have HT := Lib.hid hT
  clear hT hx
  unfold kval aval at *
  go_enter Tryd.func23, Tryd.ntmps23
  go_wp2_with fail
  refine (CR.out _).mono ?_; rintro e w1 ⟨rfl, hB1⟩
  have HB1 := Lib.hid (HB0.out.trans (hB1.mono HB0.out.size))
  clear hB1 HB0
  go_wp2_with fail
  refine wp_loop_rounds 4 ?_
  rw [rounds_succ]
  go_wp2_with fail
  refine (CA.out _ (HT.out.below HB1.out)).mono ?_; rintro e w2 ⟨rfl, hB2⟩
  have HB2 := Lib.hid (HB1.out.trans (hB2.mono HB1.out.size))
  have hn0 : OwnT w2 w1.heap.size (.slice none 0 0) [] := Rw.OwnS.nil _ _
  have hs2 := hB2.size
  go_wp2_with (at_builtin; refine Own.wpList_append2 _ rfl _ _ 50 rfl w1.heap.size 9 i0 (.string ⟨#[]⟩) 1 16 Tryd.underlying50 hi hz0 hz1 hz2 rfl (by decide) _ _ _ rfl (World.ownsRow.alloc hn0 _) ⟨World.heap _ |>.size, 0, none⟩ 1 1 [.string ⟨a.toArray⟩] rfl rfl (cell_one_new _ _ _) (by simp [Value.oneCell']) (by unfold maxLen; simp) (by simp) (by simp; omega) ?_; intro v3 w3 hown3 hgrow3 _ _)
  obtain ⟨ho3, hB3, hs3⟩ := tstep hn0 hs2 hown3 hgrow3
  have HB3 : Hid (Below w.heap.size w w3) := Lib.hid (HB2.out.trans (hB3.mono HB1.out.size))
  clear hown3 hgrow3 hB3 hn0
  rw [rounds_succ]
  go_wp2_with fail
  refine (CB.out _ (HT.out.below HB3.out)).mono ?_; rintro e w4 ⟨rfl, hB4⟩
  have HB4 := Lib.hid (HB3.out.trans (hB4.mono HB3.out.size))
  have hn4 := ho3.below hB4
  have hs4 := Nat.le_trans hs3 hB4.size
  clear ho3 hB4
  go_wp2_with (at_builtin; refine Own.wpList_append2 _ rfl _ _ 50 rfl w1.heap.size 9 i0 (.string ⟨#[]⟩) 1 16 Tryd.underlying50 hi hz0 hz1 hz2 rfl (by decide) _ _ _ rfl (World.ownsRow.alloc hn4 _) ⟨World.heap _ |>.size, 0, none⟩ 1 1 [.string ⟨b.toArray⟩] rfl rfl (cell_one_new _ _ _) (by simp [Value.oneCell']) (by unfold maxLen; simp) (by simp) (by simp; omega) ?_; intro v5 w5 hown5 hgrow5 _ _)
  obtain ⟨ho5, hB5, hs5⟩ := tstep hn4 hs4 hown5 hgrow5
  have HB5 : Hid (Below w.heap.size w w5) := Lib.hid (HB4.out.trans (hB5.mono HB1.out.size))
  clear hown5 hgrow5 hB5 hn4
  rw [rounds_succ]
  go_wp2_with fail
  refine (CC.out _ (HT.out.below HB5.out)).mono ?_; rintro e w6 ⟨rfl, hB6⟩
  have HB6 := Lib.hid (HB5.out.trans (hB6.mono HB5.out.size))
  have hn6 := ho5.below hB6
  have hs6 := Nat.le_trans hs5 hB6.size
  clear ho5 hB6
  go_wp2_with (at_builtin; refine Own.wpList_append2 _ rfl _ _ 50 rfl w1.heap.size 9 i0 (.string ⟨#[]⟩) 1 16 Tryd.underlying50 hi hz0 hz1 hz2 rfl (by decide) _ _ _ rfl (World.ownsRow.alloc hn6 _) ⟨World.heap _ |>.size, 0, none⟩ 1 1 [.string ⟨c.toArray⟩] rfl rfl (cell_one_new _ _ _) (by simp [Value.oneCell']) (by unfold maxLen; simp) (by simp) (by simp; omega) ?_; intro v7 w7 hown7 hgrow7 _ _)
  obtain ⟨ho7, hB7, hs7⟩ := tstep hn6 hs6 hown7 hgrow7
  have HB7 : Hid (Below w.heap.size w w7) := Lib.hid (HB6.out.trans (hB7.mono HB1.out.size))
  clear hown7 hgrow7 hB7 hn6
  obtain ⟨ad, cap, rfl, -⟩ := Own.shape ho7
  obtain ⟨p1, p2, p3, -⟩ := ho7.pos
  simp at p1
  obtain ⟨g, rfl, hg1, hg2⟩ := p3 (by omega)
  have CJ := Lib.hid (Tryd.strings_Join g 0 cap [(⟨a.toArray⟩ : ByteArray), ⟨b.toArray⟩, ⟨c.toArray⟩] ⟨#[46]⟩ w7 (fun j y hj => by
    have h := World.ownsRow.cellAt ho7 j (by
      have := (List.getElem?_eq_some_iff.1 hj).1
      simpa using this)
    rw [Nat.zero_add, h]
    match j, hj with
    | 0, hj => simp at hj; subst hj; rfl
    | 1, hj => simp at hj; subst hj; rfl
    | 2, hj => simp at hj; subst hj; rfl
    | j + 3, hj => simp at hj) hg2 (by simp) (by simpa using p1) (by rw [HJ.out]; exact HLJ.out))
  rw [HJ.out] at CJ
  clear ho7
  rw [rounds_succ]
  go_wp2_with fail
  refine (CJ.out).mono ?_; rintro e w8 ⟨rfl, hB8⟩
  have HB8 := Lib.hid (HB7.out.trans (hB8.mono HB7.out.size))
  clear hB8
  go_wp2_with fail
  go_ret
  exact ⟨rfl, HB8.out⟩
theorem textE : textK (5, 1, 9) = [53, 46, 49, 46, 57] := by
  unfold textK Go.Lib.itoa
  rw [if_neg (by decide), if_neg (by decide), if_neg (by decide), dec_one (by decide), dec_one (by decide), dec_one (by decide)]
  decide
theorem works_any (w : World) (hT : Tabs w) :
    Calls Tryd.prog 14 #[] w fun e w' => e = .returned (.bool true) ∧ Below w.heap.size w w' := by
  have C1 : Hid (∀ W, Calls Tryd.prog 10 #[.agg #[.int .i64 5, .int .i64 1, .int .u32 9], .agg #[.int .i64 5, .int .i64 2, .int .u32 0]] W fun e w' => e = .returned (.int .i64 (-1)) ∧ Below W.heap.size W w') := Lib.hid (fun W => (compare_any (5, 1, 9) (5, 2, 0) W).mono fun e w' h => ⟨h.1, h.2.below⟩)
  have C2 : Hid (∀ W, Calls Tryd.prog 11 #[.agg #[.int .i64 5, .int .i64 1, .int .u32 9], .agg #[.int .i64 5, .int .i64 2, .int .u32 0]] W fun e w' => e = .returned (.bool true) ∧ Below W.heap.size W w') := Lib.hid (fun W => less_any (5, 1, 9) (5, 2, 0) W)
  have C3 : Hid (∀ W, Tabs W → Calls Tryd.prog 23 #[.agg #[.int .i64 5, .int .i64 1, .int .u32 9]] W fun e w' => e = .returned (.string ⟨#[53, 46, 49, 46, 57]⟩) ∧ Below W.heap.size W w') := Lib.hid (fun W hW => by
    have h := text_any (5, 1, 9) (by unfold ok; decide) W hW
    rw [textE] at h
    exact h)
  have C4 : Hid (∀ W, Calls Tryd.prog 12 #[.agg #[.int .i64 5, .int .i64 1, .int .u32 9]] W fun e w' => e = .returned (.bool true) ∧ Below W.heap.size W w') := Lib.hid (fun W => good_any (5, 1, 9) W)
  have HT := Lib.hid hT
  clear hT
  obtain ⟨w2, hw2⟩ : ∃ w2, Hid (w2 = (w.alloc (.cells #[.int .i64 5, .int .i64 1, .int .u32 9] 24)).alloc (.cells #[.int .i64 5, .int .i64 2, .int .u32 0] 24)) := ⟨_, Lib.hid rfl⟩
  have HG : Hid (Below w.heap.size w w2) := Lib.hid (by rw [hw2.out]; exact (((Gr.refl w).alloc _).alloc _).below)
  have HC : Hid (∀ W, Below w2.heap.size w2 W → (W.cell? ⟨w.heap.size, 0, none⟩ = some (.int .i64 5) ∧ W.cell? ⟨w.heap.size, 1, none⟩ = some (.int .i64 1) ∧ W.cell? ⟨w.heap.size, 2, none⟩ = some (.int .u32 9)) ∧
      (W.cell? ⟨w.heap.size + 1, 0, none⟩ = some (.int .i64 5) ∧ W.cell? ⟨w.heap.size + 1, 1, none⟩ = some (.int .i64 2) ∧ W.cell? ⟨w.heap.size + 1, 2, none⟩ = some (.int .u32 0))) := Lib.hid (fun W hB => by
    have hs : w2.heap.size = w.heap.size + 2 := by rw [hw2.out, World.size_alloc, World.size_alloc]
    have h1 : Rw.At enc w2 w.heap.size 0 (5, 1, 9) := by
      rw [hw2.out]
      exact (Rw.At.box (enc := enc) (e := 24) w (5, 1, 9) _ rfl).below (box_below _ _) (by rw [World.size_alloc]; omega)
    have h2 : Rw.At enc w2 (w.heap.size + 1) 0 (5, 2, 0) := by
      rw [hw2.out]
      have := Rw.At.box (enc := enc) (e := 24) (w.alloc (.cells #[.int .i64 5, .int .i64 1, .int .u32 9] 24)) (5, 2, 0) _ rfl
      rw [World.size_alloc] at this
      exact this
    have h3 := at3 (h1.below hB (by omega))
    have h4 := at3 (h2.below hB (by omega))
    simp only [Nat.zero_add] at h3 h4
    exact ⟨h3, h4⟩)
  go_enter Tryd.func14, Tryd.ntmps14
  go_wp2_with fail
  rw [← hw2.out]
  refine (C1.out _).mono ?_; rintro e w3 ⟨rfl, hB3⟩
  obtain ⟨⟨c0, c1, c2⟩, d0, d1, d2⟩ := HC.out w3 hB3
  have HB3 := Lib.hid hB3
  clear hB3
  go_wp2_with fail
  refine (C2.out _).mono ?_; rintro e w4 ⟨rfl, hB4⟩
  have HB4 := Lib.hid (HB3.out.trans (hB4.mono HB3.out.size))
  clear c0 c1 c2 d0 d1 d2 hB4
  obtain ⟨⟨c0, c1, c2⟩, d0, d1, d2⟩ := HC.out w4 HB4.out
  go_wp2_with fail
  refine (C3.out _ (HT.out.below (HG.out.trans (HB4.out.mono HG.out.size)))).mono ?_; rintro e w5 ⟨rfl, hB5⟩
  have HB5 := Lib.hid (HB4.out.trans (hB5.mono HB4.out.size))
  clear c0 c1 c2 d0 d1 d2 hB5
  obtain ⟨⟨c0, c1, c2⟩, d0, d1, d2⟩ := HC.out w5 HB5.out
  go_wp2_with fail
  refine (C4.out _).mono ?_; rintro e w6 ⟨rfl, hB6⟩
  have HB6 := Lib.hid (HG.out.trans ((HB5.out.trans (hB6.mono HB5.out.size)).mono HG.out.size))
  clear c0 c1 c2 d0 d1 d2 hB6
  go_wp2_with fail
  go_ret
  exact ⟨rfl, HB6.out⟩
def laidL : List (String × DataW Unit) := Rows.keyOrderRow.laid
theorem door_met (os : Os) (args : Array Value) : laidMetH Tryd.prog laidL ((World.doorLaid Tryd.prog 24 os).forCall (fun _ _ => 0) ⟨#[], args, []⟩).memory :=
  laidMetH_of_parts3 (fuel := 8) (laidMet_of_run' 8 (by kernel_rfl) (by kernel_rfl)) (by kernel_rfl) (by kernel_rfl)
theorem tabs_of_laid {W : World} (h : laidMetH Tryd.prog laidL W) : Tabs W := by
  rw [MakeChecks.laidMetH_plain _ _ _ (by kernel_rfl)] at h
  have h1 := laidMet.tail (laidMet.tail h)
  exact Go.Lib.tabIs_of_head (g := 0) (k := .u64) (zs := Go.Lib.pow10Tab) (by kernel_rfl) (by kernel_rfl) Tryd.underlying97 Tryd.underlying72 (by kernel_rfl) (by kernel_rfl) (show laidMet Tryd.prog ((_, Go.Lib.tabData .u64 Go.Lib.pow10Tab) :: _) W from h1)
end Go.Proofs.YtpfnjippdjhfgaaDoor.Key
