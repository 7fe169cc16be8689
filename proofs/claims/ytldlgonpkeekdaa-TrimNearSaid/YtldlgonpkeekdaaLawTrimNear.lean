/- If each of any readings is changed by no more than so much, the middle is not either. -/
import Derived.Test.YtldlgonpkeekdaaRows
import Derived.WalkKit
import Derived.ProofKit
import Derived.OpenShut
import Derived.ShutString
import Derived.ChangeOld
import Derived.Below
import Derived.Test.YtldlgonpkeekdaaTrmF
import Derived.Test.YtldlgonpkeekdaaIntK
import Derived.Deep.Cut
import Derived.Deep.CutRange
import Derived.Deep.RegionWith
import Derived.BigRegion
import Derived.BigQuiet
import Derived.Deep.RegionHeld3
import Derived.Deep.RegionHeldLaw
namespace Go.Proofs.Ytldlgonpkeekdaa.lawTrimNear
open Go.ChangeShapes Go.WideShapes Go.ChangeAt Go.RowKit
open Go.ChangeMaps (open_string shut_string)
set_option linter.unusedVariables false

theorem own : ownKnob Try.prog.godebug = none := by kernel_rfl
theorem laidOut : laidOutB Try.prog = true := by kernel_rfl

/-- What the walk is told of a slice of integers that came in. -/
def IsRow (k : IntKind) (w : World) (a : Option Addr) (len cap : Nat) (zs : List Int) : Prop :=
  (a = none ∧ len = 0 ∧ cap = 0 ∧ zs = []) ∨
  ∃ x, a = some x ∧ len ≤ cap ∧ cap ≤ maxLen ∧ zs.length = cap ∧ (∀ i, i < zs.length → w.cell? (x.add i) = some (.int k (zs.getD i 0))) ∧ ∀ n ∈ zs, (Lit.int k n).wf = true

/-! The walk: the Go text returns true and writes nothing that was there. -/
set_option linter.unusedSimpArgs false in
set_option maxRecDepth 100000 in
set_option maxHeartbeats 4000000 in
theorem walk (a0 : Int) (a1 : Option Addr) (len1 cap1 : Nat) (z1 : List Int) (a2 : Option Addr) (len2 cap2 : Nat) (z2 : List Int) (w : World) (w0 : (Lit.int .i64 a0).wf = true) (w1 : IsRow .i32 w a1 len1 cap1 z1) (w2 : IsRow .i16 w a2 len2 cap2 z2) :
    Calls Try.prog 6 #[.int .i64 a0, .slice a1 len1 cap1, .slice a2 len2 cap2] w fun e w' => e = .returned (.bool true) ∧ Below w.heap.size w w' := by
  have hl1 := IntK.RowK.len w1
  have hl2 := IntK.RowK.len w2
  have HLA := Lib.hid (fun i (hi : i < len1) => IntK.RowK.at w1 hi)
  have HLB := Lib.hid (fun i (hi : i < len2) => IntK.RowK.at w2 hi)
  obtain ⟨hl1, hl3⟩ := hl1
  obtain ⟨hl2, hl4⟩ := hl2
  unfold maxLen at hl3 hl4
  have C9 := Lib.hid (fun W => Trm.works24_any W)
  clear w0 w1 w2
  go_enter Try.func6, Try.ntmps6
  go_wp2_with fail
  go_loopw [7, 8, 9, 10] (fun va' vb' d i wr => ∃ (k : Nat) (A B : List Int) (D : Int) (va vb : Value), va = va' ∧ vb = vb' ∧ k ≤ 40 ∧ k ≤ len1 ∧ i = .int .i64 k ∧ d = .int .i64 D ∧ 0 ≤ D ∧ D ≤ 32768 ∧ Hid (Trm.Near k A B D) ∧ Hid (Trm.Two w wr va vb A B)) (fun _ _ _ i _ => 40 - (intOf i).toNat)
  case atStart => exact ⟨0, [], [], 0, _, _, rfl, rfl, Nat.zero_le _, Nat.zero_le _, rfl, rfl, by omega, by omega, Lib.hid Trm.Near.start, Lib.hid (Trm.Two.start w)⟩
  case round =>
    obtain ⟨k, A, B, D, va, vb, rfl, rfl, hk40, hk1, rfl, rfl, D0, D1, HNr, HX⟩ := hrel
    by_cases hlt : k < len1
    · by_cases h40 : k < 40
      · have d1 : decide ((k : Int) < (len1 : Int)) = true := decide_eq_true (by omega)
        have d2 : decide ((k : Int) < 40) = true := decide_eq_true (by omega)
        obtain ⟨b, off, rfl, hcl, hwf⟩ := HLA.out k hlt
        have hc := hcl wr HX.out.below
        obtain ⟨z0, z1'⟩ := bounds_i32 hwf
        generalize z1.getD k 0 = z at *
        have HCW := Lib.hid hcl
        clear hcl hwf
        go_upto_if 29 with fail
        go_cut [11] from 16 to 57 (fun a W => Hid (wr = W) ∧ ∃ c : Int, a = .int .i64 c ∧ -32768 ≤ c ∧ c ≤ 32767)
        case first =>
          by_cases hb : k < len2
          · obtain ⟨b', off', rfl, hcl, hwf⟩ := HLB.out k hb
            have hc' := hcl wr HX.out.below
            obtain ⟨y0, y1⟩ := bounds_i16 hwf
            generalize z2.getD k 0 = y at *
            clear hcl hwf
            have d3 : decide ((k : Int) < (len2 : Int)) = true := decide_eq_true (by omega)
            go_wp2_with fail
            go_meet
            exact ⟨Lib.hid rfl, y, rfl, y0, y1⟩
          · have d3 : decide ((k : Int) < (len2 : Int)) = false := decide_eq_false (by omega)
            go_wp2_with fail
            go_meet
            exact ⟨Lib.hid rfl, 0, rfl, by omega, by omega⟩
        case rest =>
          obtain ⟨hw, c, rfl, c0, c1⟩ := hcut
          obtain rfl := hw.out
          clear hw
          have hlA : A.length ≤ 1000 := by rw [HNr.out.lena]; omega
          have hlB : B.length ≤ 1000 := by rw [HNr.out.lenb]; omega
          have K0 := Lib.hid (HX.out.drew).below
          have K1 : Hid (∀ o, Below w.heap.size w (wr.alloc o).drew) := Lib.hid (fun o => ((HX.out.alloc o).drew).below)
          have K2 : Hid (∀ o o', Below w.heap.size w ((wr.alloc o).alloc o').drew) := Lib.hid (fun o o' => (((HX.out.alloc o).alloc o').drew).below)
          have K3 : Hid (∀ W, Below w.heap.size w W → ∀ o, Below w.heap.size w (W.alloc o)) := Lib.hid (fun W hW o => hW.alloc hW.size o)
          have T1 : Hid (Trm.Two w (wr.alloc (.cells #[.int .i64 z] 2)).drew va vb A B) := Lib.hid (HX.out.alloc _).drew
          have T2 : Hid (Trm.Two w ((wr.alloc (.cells #[.int .i64 z] 2)).alloc (.cells #[.int .i64 (z + c)] 2)).drew va vb A B) := Lib.hid ((HX.out.alloc _).alloc _).drew
          have T3 : Hid (Trm.Two w ((wr.alloc (.cells #[.int .i64 (z + c)] 2)).alloc (.cells #[.int .i64 z] 2)).drew va vb A B) := Lib.hid ((HX.out.alloc _).alloc _).drew
          have N1 : Hid ((wr.alloc (.cells #[.int .i64 z] 2)).drew.cell? ⟨wr.heap.size, 0, none⟩ = some (.int .i64 z)) := Lib.hid (Trm.new_cell wr z _)
          have N2 : Hid (((wr.alloc (.cells #[.int .i64 z] 2)).alloc (.cells #[.int .i64 (z + c)] 2)).drew.cell? ⟨wr.heap.size, 0, none⟩ = some (.int .i64 z)) := Lib.hid (Trm.old_cell wr z _ _)
          have N2b : Hid (((wr.alloc (.cells #[.int .i64 z] 2)).alloc (.cells #[.int .i64 (z + c)] 2)).drew.cell? ⟨wr.heap.size + 1, 0, none⟩ = some (.int .i64 (z + c))) := Lib.hid (Trm.nxt_cell wr (z + c) _ _)
          have N3 : Hid (((wr.alloc (.cells #[.int .i64 (z + c)] 2)).alloc (.cells #[.int .i64 z] 2)).drew.cell? ⟨wr.heap.size + 1, 0, none⟩ = some (.int .i64 z)) := Lib.hid (Trm.nxt_cell wr z _ _)
          have N3b : Hid (((wr.alloc (.cells #[.int .i64 (z + c)] 2)).alloc (.cells #[.int .i64 z] 2)).drew.cell? ⟨wr.heap.size, 0, none⟩ = some (.int .i64 (z + c))) := Lib.hid (Trm.old_cell wr (z + c) _ _)
          go_upto_region 9 with fail
          have q1 : IntKind.i64.wrap (z + c) = z + c := by rw [IntKind.wrap_i64]; omega
          have q2 : IntKind.i64.wrap z = z := by rw [IntKind.wrap_i64]; omega
          have q3 : wrap64 (z + c) = z + c := by unfold wrap64; omega
          have q4 : wrap64 z = z := by unfold wrap64; omega
          have q5 : k < len1 := hlt
          have q6 : (0 : Int) ≤ (k : Int) := by omega
          refine wp_region_noPanic ?_
          go_region_held_law (fun W => Below w.heap.size w W ∧ W.cell? ⟨b, off + k, none⟩ = some (.int .i32 z)) ((refine ⟨?_, HCW.out _ ?_⟩ <;> (first | assumption | exact K0.out | exact HX.out.below | exact K1.out _ | exact K2.out _ _ | exact K3.out _ (by assumption) _)))
            (first
              | (refine Trm.step_lit rfl _ _ rfl w.heap.size va A ?_ (T1.out.owna) (wr.heap.size) z ?_ (N1.out) hlA (T1.out.below.size) ?_; (focus (simp [Act.eval, Act.put])); (focus (simp [Act.eval, Act.put])); intro v7 w7 ho7 hg7 hb7; have T7 := T1.out.appA ho7 hg7 hb7; have B7 := T7.below; skip)
              | (refine Trm.step_lit rfl _ _ rfl w.heap.size va A ?_ (T2.out.owna) (wr.heap.size) z ?_ (N2.out) hlA (T2.out.below.size) ?_; (focus (simp [Act.eval, Act.put])); (focus (simp [Act.eval, Act.put])); intro v7 w7 ho7 hg7 hb7; have T7 := T2.out.appA ho7 hg7 hb7; have B7 := T7.below; have M7 := HX.out.box (N2b.out) (by omega) hg7)
              | (refine Trm.step_lit rfl _ _ rfl w.heap.size va A ?_ (T3.out.owna) (wr.heap.size + 1) z ?_ (N3.out) hlA (T3.out.below.size) ?_; (focus (simp [Act.eval, Act.put])); (focus (simp [Act.eval, Act.put])); intro v7 w7 ho7 hg7 hb7; have T7 := T3.out.appA ho7 hg7 hb7; have B7 := T7.below; have M7 := HX.out.box (N3b.out) (by omega) hg7)
              | (refine Trm.step_lit rfl _ _ rfl w.heap.size vb B ?_ (T7.ownb) (wr.heap.size + 1) (z + c) ?_ (M7) hlB (T7.below.size) ?_; (focus (simp [Act.eval, Act.put])); (focus (simp [Act.eval, Act.put])); intro v8 w8 ho8 hg8 hb8; have T8 := (T7).appB ho8 hg8 hb8; have B8 := T8.below)
              | (refine Trm.step_lit rfl _ _ rfl w.heap.size vb B ?_ (T7.ownb) (wr.heap.size) (z + c) ?_ (M7) hlB (T7.below.size) ?_; (focus (simp [Act.eval, Act.put])); (focus (simp [Act.eval, Act.put])); intro v8 w8 ho8 hg8 hb8; have T8 := (T7).appB ho8 hg8 hb8; have B8 := T8.below)
              | (refine Trm.step_lit rfl _ _ rfl w.heap.size vb B ?_ ((T7.alloc _).ownb) (w7.heap.size) (z + c) ?_ (Trm.new_cell w7 (z + c) _) hlB ((T7.alloc _).below.size) ?_; (focus (simp [Act.eval, Act.put])); (focus (simp [Act.eval, Act.put])); intro v8 w8 ho8 hg8 hb8; have T8 := ((T7.alloc _)).appB ho8 hg8 hb8; have B8 := T8.below))
          all_goals
            rename_i hHeld
            clear hHeld
            refine NoPanic.normal ?_
            clear K0 K1 K2 K3 T1 T2 T3 N1 N2 N2b N3 N3b q1 q2 q3 q4 q5 q6 hg7 hb7 ho7 T7 B7 ho8 hg8 hb8 B8 HCW hlA hlB
            simp only [Act.put, List.getElem_toArray, List.getElem_cons_succ, List.getElem_cons_zero, List.setIfInBounds_toArray, List.set_cons_zero, List.set_cons_succ]
            go_wp2_with fail
            all_goals (
              go_roundw
              case rel => exact ⟨k + 1, A ++ [z], B ++ [z + c], _, v7, v8, rfl, rfl, by omega, by omega, by go_num, rfl, by omega, by omega, Lib.hid (HNr.out.more (by omega) (by omega) (by omega) ⟨z0, z1'⟩ ⟨c0, c1⟩), Lib.hid T8⟩
              case measure => simp [intOf]; omega)
      · have d1 : decide ((k : Int) < (len1 : Int)) = true := decide_eq_true (by omega)
        have d2 : decide ((k : Int) < 40) = false := decide_eq_false (by omega)
        have C1 := Lib.hid (fun ad cap W (h : I64s.Sl W ad cap A) => Trm.tmid_any a0 ad cap A W h (by rw [HNr.out.lena]; omega) HNr.out.a64)
        have C2 := Lib.hid (fun ad cap W (h : I64s.Sl W ad cap B) => Trm.tmid_any a0 ad cap B W h (by rw [HNr.out.lenb]; omega) HNr.out.b64)
        obtain ⟨m1, m2⟩ := HNr.out.mid D0 a0
        have b1 : Trm.midB A = decide (0 < (k : Int)) := by unfold Trm.midB; rw [HNr.out.lena, decide_eq_decide]; omega
        have b2 : Trm.midB B = decide (0 < (k : Int)) := by unfold Trm.midB; rw [HNr.out.lenb, decide_eq_decide]; omega
        obtain ⟨ad1, cp1, rfl, -⟩ := Own.shape HX.out.owna
        obtain ⟨ad2, cp2, rfl, -⟩ := Own.shape HX.out.ownb
        have S1 := HX.out.owna.sl
        have S2 := HX.out.ownb.sl
        have HB := Lib.hid HX.out.below
        rw [b1] at C1
        rw [b2] at C2
        rw [HNr.out.lena] at C1 ⊢
        rw [HNr.out.lenb] at C2 ⊢
        generalize Trm.midV a0 A = x at *
        generalize Trm.midV a0 B = y at *
        clear HNr HX b1 b2 HLA HLB
        have e1 : decide (x - y ≤ D) = true := decide_eq_true m1
        have e2 : decide (y - x ≤ D) = true := decide_eq_true m2
        obtain ⟨q, hq⟩ : ∃ q : Bool, decide (0 < (k : Int)) = q := ⟨_, rfl⟩
        rw [hq] at C1 C2
        cases q
        all_goals try (exfalso; first | (have := of_decide_eq_false hq; omega) | (have := of_decide_eq_true hq; omega))
        all_goals (
          first
            | (have hz : k = 0 := by have := of_decide_eq_false hq; omega)
              subst hz
            | (have hz : 0 < k := by have := of_decide_eq_true hq; omega)
          go_wp2_with fail
          refine (C1.out ad1 cp1 wr S1).mono ?_; rintro e w1 ⟨rfl, hB1⟩
          have S3 := S2.below hB1
          have HB1 := Lib.hid (HB.out.trans (hB1.mono HB.out.size))
          clear hB1 S1 S2 HB
          go_wp2_with fail
          refine (C2.out ad2 cp2 w1 S3).mono ?_; rintro e w2 ⟨rfl, hB2⟩
          have BE := Lib.hid (HB1.out.trans (hB2.mono HB1.out.size))
          clear hB2 S3 HB1 C1 C2
          go_wp2_with fail
          refine (C9.out _).mono ?_; rintro e w9 ⟨rfl, hB⟩
          have B9 := Lib.hid (BE.out.trans (hB.mono BE.out.size))
          clear hB
          go_wp2_with fail
          go_ret
          exact ⟨rfl, B9.out⟩)
    · have d1 : decide ((k : Int) < (len1 : Int)) = false := decide_eq_false (by omega)
      have C1 := Lib.hid (fun ad cap W (h : I64s.Sl W ad cap A) => Trm.tmid_any a0 ad cap A W h (by rw [HNr.out.lena]; omega) HNr.out.a64)
      have C2 := Lib.hid (fun ad cap W (h : I64s.Sl W ad cap B) => Trm.tmid_any a0 ad cap B W h (by rw [HNr.out.lenb]; omega) HNr.out.b64)
      obtain ⟨m1, m2⟩ := HNr.out.mid D0 a0
      have b1 : Trm.midB A = decide (0 < (k : Int)) := by unfold Trm.midB; rw [HNr.out.lena, decide_eq_decide]; omega
      have b2 : Trm.midB B = decide (0 < (k : Int)) := by unfold Trm.midB; rw [HNr.out.lenb, decide_eq_decide]; omega
      obtain ⟨ad1, cp1, rfl, -⟩ := Own.shape HX.out.owna
      obtain ⟨ad2, cp2, rfl, -⟩ := Own.shape HX.out.ownb
      have S1 := HX.out.owna.sl
      have S2 := HX.out.ownb.sl
      have HB := Lib.hid HX.out.below
      rw [b1] at C1
      rw [b2] at C2
      rw [HNr.out.lena] at C1 ⊢
      rw [HNr.out.lenb] at C2 ⊢
      generalize Trm.midV a0 A = x at *
      generalize Trm.midV a0 B = y at *
      clear HNr HX b1 b2 HLA HLB
      have e1 : decide (x - y ≤ D) = true := decide_eq_true m1
      have e2 : decide (y - x ≤ D) = true := decide_eq_true m2
      obtain ⟨q, hq⟩ : ∃ q : Bool, decide (0 < (k : Int)) = q := ⟨_, rfl⟩
      rw [hq] at C1 C2
      cases q
      all_goals try (exfalso; first | (have := of_decide_eq_false hq; omega) | (have := of_decide_eq_true hq; omega))
      all_goals (
        first
          | (have hz : k = 0 := by have := of_decide_eq_false hq; omega)
            subst hz
          | (have hz : 0 < k := by have := of_decide_eq_true hq; omega)
        go_wp2_with fail
        refine (C1.out ad1 cp1 wr S1).mono ?_; rintro e w1 ⟨rfl, hB1⟩
        have S3 := S2.below hB1
        have HB1 := Lib.hid (HB.out.trans (hB1.mono HB.out.size))
        clear hB1 S1 S2 HB
        go_wp2_with fail
        refine (C2.out ad2 cp2 w1 S3).mono ?_; rintro e w2 ⟨rfl, hB2⟩
        have BE := Lib.hid (HB1.out.trans (hB2.mono HB1.out.size))
        clear hB2 S3 HB1 C1 C2
        go_wp2_with fail
        refine (C9.out _).mono ?_; rintro e w9 ⟨rfl, hB⟩
        have B9 := Lib.hid (BE.out.trans (hB.mono BE.out.size))
        clear hB
        go_wp2_with fail
        go_ret
        exact ⟨rfl, B9.out⟩)

set_option maxRecDepth 100000 in
theorem lifted (os : Os) (started : os.Started) (H : Type) (enc : TypeId × Value → H) :
    ReturnsInHanded {} Try.checked os 6 .any (Rows.trimNearSpec.pre6 enc Try.prog Try.f6 Rows.trimNearRow.domain false) (Rows.trimNearSpec.post enc Try.prog Try.f6 false true false false) := by
  refine returnsInHanded_of_change (C := Try.checked) own started (by kernel_rfl) Try.func6
    (ChangeSpec.witness6 (enc := enc) (C := Try.checked) false ⟨#[], #[.int .i64 0, .slice none 0 0, .slice none 0 0], []⟩ 8 (by kernel_rfl) (by kernel_rfl) (by kernel_rfl) (by kernel_rfl)) ?_
  intro W base args ds gs before hval0 hW hcnd _
  have hval : ∀ (j : Nat) t v, Try.f6.params[j]? = some t → args[j]? = some v → Value.okWide Try.prog W .any base t v := hval0
  have hW' := hW
  obtain ⟨p, q, hA0, hV, rfl, hfz, hnd⟩ := hW
  have hA : DataW.TrodAll enc Try.prog W 0 (fun _ => true) true Try.f6.params.toList args.toList ds p := hA0
  rw [Try.params6] at hA hval
  obtain ⟨v0, vs0, d0, ds0, p0, q0, hargs, rfl, rfl, h0, r0⟩ := trodAll_cons hA
  obtain ⟨v1, vs1, d1, ds1, p1, q1, rfl, rfl, rfl, h1, r1⟩ := trodAll_cons r0
  obtain ⟨v2, vs2, d2, ds2, p2, q2, rfl, rfl, rfl, h2, r2⟩ := trodAll_cons r1
  obtain ⟨rfl, rfl, rfl⟩ := trodAll_nil r2
  obtain rfl : args = #[v0, v1, v2] := by cases args; simp_all
  obtain ⟨rfl, rfl⟩ := trodVars_none hV
  obtain ⟨a0, rfl, rfl, rfl, w0⟩ := open_int Try.underlying3 (hval 0 3 v0 rfl rfl) h0
  obtain ⟨a1, len1, cap1, rfl⟩ := okWide_slice Try.underlying35 (hval 1 35 v1 rfl rfl)
  have k1 := h1
  have lt1 : ∀ x ∈ p1, x.block < W.heap.size := by obtain ⟨m, hm⟩ := k1; exact DataW.trod_lt m _ _ _ hm
  obtain ⟨z1, w1⟩ : ∃ zs, IsRow .i32 W a1 len1 cap1 zs := by
    obtain ⟨fuel, hf⟩ := h1
    rcases open_ints Try.underlying35 Try.underlying21 (by kernel_rfl) hf with ⟨hcs, _⟩ | ⟨x, l, c, zs, hcs, _, hl, hm, hz, _, hcell, hwz⟩
    · simp [Value.cells] at hcs
      obtain ⟨rfl, rfl, rfl⟩ := hcs
      exact ⟨[], .inl ⟨rfl, rfl, rfl, rfl⟩⟩
    · simp [Value.cells] at hcs
      obtain ⟨rfl, rfl, rfl⟩ := hcs
      exact ⟨zs, .inr ⟨_, rfl, hl, hm, by simpa using hz, hcell, hwz⟩⟩
  obtain ⟨a2, len2, cap2, rfl⟩ := okWide_slice Try.underlying36 (hval 2 36 v2 rfl rfl)
  have k2 := h2
  have lt2 : ∀ x ∈ p2, x.block < W.heap.size := by obtain ⟨m, hm⟩ := k2; exact DataW.trod_lt m _ _ _ hm
  obtain ⟨z2, w2⟩ : ∃ zs, IsRow .i16 W a2 len2 cap2 zs := by
    obtain ⟨fuel, hf⟩ := h2
    rcases open_ints Try.underlying36 Try.underlying37 (by kernel_rfl) hf with ⟨hcs, _⟩ | ⟨x, l, c, zs, hcs, _, hl, hm, hz, _, hcell, hwz⟩
    · simp [Value.cells] at hcs
      obtain ⟨rfl, rfl, rfl⟩ := hcs
      exact ⟨[], .inl ⟨rfl, rfl, rfl, rfl⟩⟩
    · simp [Value.cells] at hcs
      obtain ⟨rfl, rfl, rfl⟩ := hcs
      exact ⟨zs, .inr ⟨_, rfl, hl, hm, by simpa using hz, hcell, hwz⟩⟩
  clear hA0 hval0
  refine (walk a0 a1 len1 cap1 z1 a2 len2 cap2 z2 W w0 w1 w2).mono fun e W' ⟨he, bel⟩ => ?_
  subst he
  exact ⟨_, rfl, _, _, _, [], _, [], hW', trodAll_mk1 (shut_bool Try.underlying4 _), (trodAll_cons_mk (shut_int Try.underlying3 w0) (trodAll_cons_mk (Below.trod laidOut (by kernel_rfl) (of_decide_eq_true (by kernel_rfl)) k1 bel lt1) (trodAll_cons_mk (Below.trod laidOut (by kernel_rfl) (of_decide_eq_true (by kernel_rfl)) k2 bel lt2) trodAll_mk0))), rfl, bel.frame _, fun h => by cases h⟩

theorem over : Rows.trimNearRow.holds Try.pinned (OpenSpec.ofChange Rows.trimNearSpec) :=
  OpenClaim.holds_of_wide 6 Try.f6 rfl rfl rfl rfl rfl rfl rfl ⟨rfl, rfl, rfl, rfl, rfl⟩ rfl rfl rfl rfl rfl (by kernel_rfl) Try.func6 (by kernel_rfl)
    (of_decide_eq_true (by kernel_rfl)) (by unfold Func.isWrapper; first | (rw [if_pos (by decide +kernel)]; kernel_rfl) | (rw [if_neg (by decide +kernel)]; exact ⟨rfl, rfl⟩))
    (fun os started H enc _ => lifted os started H enc)

theorem proved : Rows.TrimNearSaid := over
#print axioms proved
end Go.Proofs.Ytldlgonpkeekdaa.lawTrimNear
