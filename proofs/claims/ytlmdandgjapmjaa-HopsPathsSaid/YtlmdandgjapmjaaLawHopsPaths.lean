/- Whether any nodes are a path of any graph is as the document says, and none has more links than the limit. -/
import Derived.Test.YtlmdandgjapmjaaRows
import Derived.WalkKit
import Derived.ProofKit
import Derived.OpenShut
import Derived.ShutString
import Derived.ChangeOld
import Derived.Below
import Derived.Test.YtlmdandgjapmjaaHopQ
namespace Go.Proofs.Ytlmdandgjapmjaa.lawHopsPaths
open Go.ChangeShapes Go.WideShapes Go.ChangeAt Go.RowKit
open Go.ChangeMaps (open_string shut_string)
set_option linter.unusedVariables false

theorem own : ownKnob Try.prog.godebug = none := by kernel_rfl
theorem laidOut : laidOutB Try.prog = true := by kernel_rfl

/-- What the walk is told of a slice of integers that came in. -/
def IsRow (k : IntKind) (w : World) (a : Option Addr) (len cap : Nat) (zs : List Int) : Prop :=
  (a = none ∧ len = 0 ∧ cap = 0 ∧ zs = []) ∨
  ∃ x, a = some x ∧ len ≤ cap ∧ cap ≤ maxLen ∧ zs.length = cap ∧ (∀ i, i < zs.length → w.cell? (x.add i) = some (.int k (zs.getD i 0))) ∧ ∀ n ∈ zs, (Lit.int k n).wf = true

/-! The walk: the Go text returns true and writes nothing that was there. -/
set_option linter.unusedSimpArgs false in
set_option maxRecDepth 100000 in
set_option maxHeartbeats 4000000 in
theorem walk (a0 : Rea.Wd) (a1 : Option Addr) (len1 cap1 : Nat) (z1 : List Int) (w : World) (w0 : Rea.OkW w a0) (w1 : IsRow .i64 w a1 len1 cap1 z1) :
    Calls Try.prog 3 #[Rea.wval a0, .slice a1 len1 cap1] w fun e w' => e = .returned (.bool true) ∧ Below w.heap.size w w' := by
  obtain ⟨n, L, HN, HOK, HLL, CM⟩ := Rea.mk_any a0 w w0
  obtain ⟨hn1, hn10⟩ := HN.out
  have hn64 : n ≤ 64 := by omega
  have hll := HLL.out
  clear w0
  unfold Rea.wval at *
  unfold Rea.MadePost at CM
  obtain ⟨l, HRL, HLEN, hcap, hmax, HNIL, HZ⟩ := Hop.row_rd w1
  clear w1
  obtain ⟨i0, hi, hz0, hz1, hz2⟩ := info_parts Ints.infoInt
  have HTL := Lib.hid (show (l.take 20).length = (min (len1 : Int) 20).toNat by rw [List.length_take, HLEN.out]; omega)
  have HRT := Lib.hid (Hop.rdI_take HRL.out 20)
  have HZT : Hid (∀ i, i < (l.take 20).length → Grf.inI ((l.take 20).getD i 0)) := Lib.hid (fun i hi => by
    have h := hi
    rw [List.length_take] at h
    have e : (l.take 20).getD i 0 = l.getD i 0 := by simp [List.getD, List.getElem?_take, show i < 20 by omega]
    rw [e]
    exact HZ.out i (by rw [← HLEN.out]; omega))
  have hM20 : (l.take 20).length ≤ 20 := by rw [List.length_take]; omega
  clear HLEN HRL HZ
  generalize l.take 20 = M at *
  have HE := Lib.hid (show (M.map (Value.int .i64)).length = (min (len1 : Int) 20).toNat * 1 by rw [List.length_map, HTL.out, Nat.mul_one])
  have HNN : Hid (a1 = none → (min (len1 : Int) 20).toNat = 0 ∧ cap1 = 0) := Lib.hid (fun h => ⟨by have := HNIL.out h; omega, HNIL.out h⟩)
  have H1 := Lib.hid (Hop.ints_one M)
  go_enter Try.func3, Try.ntmps3
  go_wp2_with fail
  refine (CM.out _ ((Below.refl _ _).alloc (Nat.le_refl _) _)).mono ?_; rintro e w2 ⟨g, b, ad, cap, rfl, hG, hR, hB2⟩
  have hB02 : Below w.heap.size w w2 := ((Below.refl _ _).alloc (Nat.le_refl _) (.cells #[.int .i64 a0.num, .slice a0.ad a0.len a0.cap] 24)).trans (hB2.mono (by simp))
  unfold Grf.gval
  obtain ⟨w3, hw3⟩ : ∃ w3, Hid (w3 = w2.alloc (.cells #[.int .i64 (n : Int), .slice ad L.length cap] 27)) := ⟨_, Lib.hid rfl⟩
  obtain ⟨hB3, hs3, hb3⟩ := Grf.gbox w2 w3 (n : Int) _ hw3.out
  have HB := Lib.hid (hB02.trans (hB3.mono hB02.size))
  have HX : Hid (∀ W, Below w3.heap.size w3 W → Rea.GP W (some ⟨g, 0, none⟩) n L ∧ Grf.RdG W ad L ∧ Below w.heap.size w W ∧ W.cell? ⟨w2.heap.size, 0, none⟩ = some (.int .i64 (n : Int)) ∧ W.cell? ⟨w2.heap.size, 1, none⟩ = some (.slice ad L.length cap)) := Lib.hid (fun W hW =>
    have hBW := HB.out.trans (hW.mono HB.out.size)
    ⟨.inr ⟨g, b, rfl, (hG.below hB3).below hW⟩, (hR.below hB3).below hW, hBW, (hb3.below hW).cell 0, (hb3.below hW).cell 1⟩)
  clear hG hR hB2 hB02 hB3 hs3 hb3 CM
  go_upto_region 2 with fail
  rw [← hw3.out]
  clear hw3
  have hB30 : Below w3.heap.size w3 (w3.alloc (.cells #[] 3)) := (Below.refl _ _).alloc (Nat.le_refl _) _
  have HCS : Hid (∀ a', a1 = some a' → ∀ j u, (M.map (Value.int .i64))[j]? = some u → (w3.alloc (.cells #[] 3)).cell? (a'.add j) = some u) := Lib.hid (Ints.Rd.cells (Ints.Rd.below (Ints.Rd.below HRT.out HB.out) hB30))
  have hown0 : Ints.OwnL (w3.alloc (.cells #[] 3)) w3.heap.size (.slice (some ⟨w3.heap.size, 0, none⟩) 0 0) [] := World.ownsRow_lit (size := 1) w3 #[] 0 (Nat.le_refl _) (by unfold maxLen; omega) rfl
  go_wp2_with (at_builtin; refine Own.wpList_append2_any _ rfl _ _ 25 rfl w3.heap.size 3 i0 (.int .i64 0) 1 8 Try.underlying25 hi hz0 hz1 hz2 rfl (by decide) (.slice (some ⟨w3.heap.size, 0, none⟩) 0 0) 0 [] rfl hown0 a1 (min (len1 : Int) 20).toNat cap1 (M.map (Value.int .i64)) rfl HE.out HNN.out HCS.out H1.out (by unfold maxLen; omega) (by omega) (by simp) ?_; intro v' w4 hown' hgrow _; rw [Nat.zero_add, List.nil_append, ← HTL.out] at hown'; have HB4 : Hid (Below w3.heap.size w3 w4) := Lib.hid (hB30.grown hgrow (by simp) (fun k e => by cases e; exact Nat.le_refl _)); obtain ⟨ad2, cap2, rfl, -⟩ := Own.shape hown'; obtain ⟨-, -, -, c0, c1⟩ := HX.out w4 HB4.out)
  have HR4 : Hid (Ints.Rd w4 ad2 M) := Lib.hid (Ints.OwnL.rd hown').1
  clear hown' hgrow hown0 hB30 HCS HE HNN H1 HRT HTL HNIL
  have CR := Lib.hid (fun W (hW : Below w4.heap.size w4 W) => Hop.rpath_any n ad L.length cap L ad2 M.length cap2 M W rfl (by omega) (HX.out W (HB4.out.trans (hW.mono HB4.out.size))).2.1 rfl (by omega) (HR4.out.below hW))
  have CP := Lib.hid (fun W (hW : Below w4.heap.size w4 W) => Hop.hpath_any (some ⟨g, 0, none⟩) n L ad2 M.length cap2 M W (HX.out W (HB4.out.trans (hW.mono HB4.out.size))).1 rfl (by omega) HZT.out (HR4.out.below hW))
  have CQ := Lib.hid (fun W (hW : Below w4.heap.size w4 W) => Hop.hpath_any none 0 [] ad2 M.length cap2 M W (.inl ⟨rfl, rfl, rfl⟩) rfl (by omega) HZT.out (HR4.out.below hW))
  have CL := Lib.hid (fun W (hW : Below w4.heap.size w4 W) => Hop.limit_any (some ⟨g, 0, none⟩) n L W (HX.out W (HB4.out.trans (hW.mono HB4.out.size))).1)
  have CN := Lib.hid (fun W => Hop.limit_any none 0 [] W (.inl ⟨rfl, rfl, rfl⟩))
  have C9 := Lib.hid (fun W => Hop.works19_any W)
  have HC := Lib.hid (fun W (hW : Below w4.heap.size w4 W) => (HX.out W (HB4.out.trans (hW.mono HB4.out.size))).2.2)
  rw [Hop.path_none] at CQ
  rw [show max ((n : Int) - 1) 0 = (n : Int) - 1 by omega] at CL
  rw [show max (((0 : Nat) : Int) - 1) 0 = 0 by decide] at CN
  have HPL : Hid (Hop.pathB n L M = true → M.length ≤ n) := Lib.hid (fun h => Hop.path_len (Hop.pathB_iff.1 h))
  unfold Grf.gval at CR
  clear HX HB4 HR4 HZT
  refine (CR.out _ (Below.refl _ _)).mono ?_; rintro e w5 ⟨rfl, hB5⟩
  have HB5 := Lib.hid hB5
  clear hB5 c0 c1 CR
  have q0 : ∀ x : Qui.Cls w5, x.V.cell? ⟨w2.heap.size, 0, none⟩ = some (.int .i64 (n : Int)) := fun x => (HC.out _ (HB5.out.trans (x.lies.mono HB5.out.size))).2.1
  have HS := Lib.hid (fun x : Qui.Cls w5 => HB5.out.trans (x.lies.mono HB5.out.size))
  have e1 : ((n : Int) - 1 == (n : Int) - 1) = true := beq_iff_eq.2 rfl
  generalize hpb : Hop.pathB n L M = pb at *
  cases pb with
  | true =>
    have hle := HPL.out rfl
    have t1 : decide ((M.length : Int) - 1 ≤ (n : Int) - 1) = true := decide_eq_true (by omega)
    go_upto_region 4 with fail
    refine Qui.wp_region_quiet_below (by kernel_rfl) (by kernel_rfl) ?_
    repeat (go_big_quiet_step (first | (go_at_call 9; with_reducible exact Qui.cls_below (CP.out _ (HS.out _))) | (go_at_call 9; with_reducible exact Qui.cls_below (CQ.out _ (HS.out _))) | (go_at_call 10; with_reducible exact Qui.cls_same (CL.out _ (HS.out _))) | (go_at_call 10; with_reducible exact Qui.cls_same (CN.out _)) | (go_at_call 11; with_reducible exact Qui.cls_same (C9.out _))))
    refine wpQuiet_nil ?_
    intro _ hw'
    obtain ⟨x, rfl⟩ := hw'
    have hV := Lib.hid x.lies
    generalize x.V = V at *
    clear x
    have HF := Lib.hid (HC.out _ (HB5.out.trans (hV.out.mono HB5.out.size))).1
    clear q0
    go_wp2_with fail
    go_ret
    exact ⟨rfl, HF.out⟩
  | false =>
    go_upto_region 4 with fail
    refine Qui.wp_region_quiet_below (by kernel_rfl) (by kernel_rfl) ?_
    repeat (go_big_quiet_step (first | (go_at_call 9; with_reducible exact Qui.cls_below (CP.out _ (HS.out _))) | (go_at_call 9; with_reducible exact Qui.cls_below (CQ.out _ (HS.out _))) | (go_at_call 10; with_reducible exact Qui.cls_same (CL.out _ (HS.out _))) | (go_at_call 10; with_reducible exact Qui.cls_same (CN.out _)) | (go_at_call 11; with_reducible exact Qui.cls_same (C9.out _))))
    refine wpQuiet_nil ?_
    intro _ hw'
    obtain ⟨x, rfl⟩ := hw'
    have hV := Lib.hid x.lies
    generalize x.V = V at *
    clear x
    have HF := Lib.hid (HC.out _ (HB5.out.trans (hV.out.mono HB5.out.size))).1
    clear q0
    go_wp2_with fail
    go_ret
    exact ⟨rfl, HF.out⟩

set_option maxRecDepth 100000 in
theorem lifted (os : Os) (started : os.Started) (H : Type) (enc : TypeId × Value → H) :
    ReturnsInHanded {} Try.checked os 3 .any (Rows.hopsPathsSpec.pre6 enc Try.prog Try.f3 Rows.hopsPathsRow.domain false) (Rows.hopsPathsSpec.post enc Try.prog Try.f3 false true false false) := by
  refine returnsInHanded_of_change (C := Try.checked) own started (by kernel_rfl) Try.func3
    (ChangeSpec.witness6 (enc := enc) (C := Try.checked) false ⟨#[], #[.agg #[.int .i64 0, .slice none 0 0], .slice none 0 0], []⟩ 8 (by kernel_rfl) (by kernel_rfl) (by kernel_rfl) (by kernel_rfl)) ?_
  intro W base args ds gs before hval0 hW hcnd _
  have hval : ∀ (j : Nat) t v, Try.f3.params[j]? = some t → args[j]? = some v → Value.okWide Try.prog W .any base t v := hval0
  have hW' := hW
  obtain ⟨p, q, hA0, hV, rfl, hfz, hnd⟩ := hW
  have hA : DataW.TrodAll enc Try.prog W 0 (fun _ => true) true Try.f3.params.toList args.toList ds p := hA0
  rw [Try.params3] at hA hval
  obtain ⟨v0, vs0, d0, ds0, p0, q0, hargs, rfl, rfl, h0, r0⟩ := trodAll_cons hA
  obtain ⟨v1, vs1, d1, ds1, p1, q1, rfl, rfl, rfl, h1, r1⟩ := trodAll_cons r0
  obtain ⟨rfl, rfl, rfl⟩ := trodAll_nil r1
  obtain rfl : args = #[v0, v1] := by cases args; simp_all
  obtain ⟨rfl, rfl⟩ := trodVars_none hV
  have k0 := h0
  have lt0 : ∀ x ∈ p0, x.block < W.heap.size := by obtain ⟨m, hm⟩ := k0; exact DataW.trod_lt m _ _ _ hm
  obtain ⟨a0, rfl, w0⟩ := Rea.open_world (hval 0 24 v0 rfl rfl) h0
  obtain ⟨a1, len1, cap1, rfl⟩ := okWide_slice Try.underlying25 (hval 1 25 v1 rfl rfl)
  have k1 := h1
  have lt1 : ∀ x ∈ p1, x.block < W.heap.size := by obtain ⟨m, hm⟩ := k1; exact DataW.trod_lt m _ _ _ hm
  obtain ⟨z1, w1⟩ : ∃ zs, IsRow .i64 W a1 len1 cap1 zs := by
    obtain ⟨fuel, hf⟩ := h1
    rcases open_ints Try.underlying25 Try.underlying3 (by kernel_rfl) hf with ⟨hcs, _⟩ | ⟨x, l, c, zs, hcs, _, hl, hm, hz, _, hcell, hwz⟩
    · simp [Value.cells] at hcs
      obtain ⟨rfl, rfl, rfl⟩ := hcs
      exact ⟨[], .inl ⟨rfl, rfl, rfl, rfl⟩⟩
    · simp [Value.cells] at hcs
      obtain ⟨rfl, rfl, rfl⟩ := hcs
      exact ⟨zs, .inr ⟨_, rfl, hl, hm, by simpa using hz, hcell, hwz⟩⟩
  clear hA0 hval0
  refine (walk a0 a1 len1 cap1 z1 W w0 w1).mono fun e W' ⟨he, bel⟩ => ?_
  subst he
  exact ⟨_, rfl, _, _, _, [], _, [], hW', trodAll_mk1 (shut_bool Try.underlying4 _), (trodAll_cons_mk (Below.trod laidOut (by kernel_rfl) (of_decide_eq_true (by kernel_rfl)) k0 bel lt0) (trodAll_cons_mk (Below.trod laidOut (by kernel_rfl) (of_decide_eq_true (by kernel_rfl)) k1 bel lt1) trodAll_mk0)), rfl, bel.frame _, fun h => by cases h⟩

theorem over : Rows.hopsPathsRow.holds Try.pinned (OpenSpec.ofChange Rows.hopsPathsSpec) :=
  OpenClaim.holds_of_wide 3 Try.f3 rfl rfl rfl rfl rfl rfl rfl ⟨rfl, rfl, rfl, rfl, rfl⟩ rfl rfl rfl rfl rfl (by kernel_rfl) Try.func3 (by kernel_rfl)
    (of_decide_eq_true (by kernel_rfl)) (by unfold Func.isWrapper; first | (rw [if_pos (by decide +kernel)]; kernel_rfl) | (rw [if_neg (by decide +kernel)]; exact ⟨rfl, rfl⟩))
    (fun os started H enc _ => lifted os started H enc)

theorem proved : Rows.HopsPathsSaid := over
#print axioms proved
end Go.Proofs.Ytlmdandgjapmjaa.lawHopsPaths
