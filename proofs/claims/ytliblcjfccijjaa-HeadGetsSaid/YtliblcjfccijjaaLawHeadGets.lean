/- Of any bytes the head is read as the document says, or it is told what is wrong first. -/
import Derived.Test.YtliblcjfccijjaaRows
import Derived.WalkKit
import Derived.ProofKit
import Derived.OpenShut
import Derived.ShutString
import Derived.ChangeOld
import Derived.Below
import Derived.Test.YtliblcjfccijjaaHedF
import Derived.Test.YtliblcjfccijjaaHedR
import Derived.Deep.Cut
namespace Go.Proofs.Ytliblcjfccijjaa.lawHeadGets
open Go.ChangeShapes Go.WideShapes Go.ChangeAt Go.RowKit
open Go.ChangeMaps (open_string shut_string)
set_option linter.unusedVariables false

theorem own : ownKnob Try.prog.godebug = none := by kernel_rfl
theorem laidOut : laidOutB Try.prog = true := by kernel_rfl

/-- What the walk is told of a slice of integers that came in. -/
def IsRow (k : IntKind) (w : World) (a : Option Addr) (len cap : Nat) (zs : List Int) : Prop :=
  (a = none ∧ len = 0 ∧ cap = 0 ∧ zs = []) ∨
  ∃ x, a = some x ∧ len ≤ cap ∧ cap ≤ maxLen ∧ zs.length = cap ∧ (∀ i, i < zs.length → w.cell? (x.add i) = some (.int k (zs.getD i 0))) ∧ ∀ n ∈ zs, (Lit.int k n).wf = true

/-! The walk: the Go text returns true and writes nothing that was there. -/
set_option maxRecDepth 100000 in
set_option maxHeartbeats 2000000 in
theorem walk (a0 : Option Addr) (len0 cap0 : Nat) (z0 : List Int) (w : World) (w0 : IsRow .u8 w a0 len0 cap0 z0) :
    Calls Try.prog 5 #[.slice a0 len0 cap0] w fun e w' => e = .returned (.bool true) ∧ Below w.heap.size w w' := by
  obtain ⟨x0, HX0, HXL0, hlc0, hcm0, HXN0, hxs0⟩ := Byt.rd_of_row w0
  clear w0 hxs0
  have hl0 := HXL0.out
  have hB0 : Below w.heap.size w (w.alloc (.cells #[] 5)) := (Below.refl _ _).alloc (Nat.le_refl _) _
  have HO := Lib.hid (Buf.own_zero w)
  have HRD := Lib.hid ((HX0.out.below hB0).take 60)
  have HBz : w.heap.size ≤ (w.alloc (.cells #[] 5)).heap.size := hB0.size
  have HE : Hid ((min (len0 : Int) 60).toNat = (x0.take 60).length) := Lib.hid (by rw [List.length_take]; omega)
  have hy60 : (x0.take 60).length ≤ 60 := by rw [List.length_take]; omega
  have CSm := Lib.hid (fun (P : Hed.Pk) W (h : P.body = []) => Hed.rsame_any P P W (by rw [h]; exact .inl rfl) (by rw [h]; exact .inl rfl))
  have CNl := Lib.hid (fun W => Hed.hget_nil W)
  have CW := Lib.hid (fun W => Hed.hworks_any W)
  have HY : Hid ((x0.take 60).length ≤ 60) := Lib.hid hy60
  have hin : (len0 : Int) ≤ (cap0 : Int) ∧ (cap0 : Int) ≤ 9223372036854775807 := by omega
  obtain ⟨hin1, hin2⟩ := hin
  clear HX0 HXL0 hl0 hy60
  generalize x0.take 60 = y0 at *
  focus
    go_enter Try.func5, Try.ntmps5
    go_upto_region 2 with (at_builtin; refine Hed.app_step rfl _ _ rfl w.heap.size (some ⟨w.heap.size, 0, none⟩) 0 0 [] rfl HO.out a0 _ cap0 y0 rfl HE.out HRD.out HXN0.out (by have := HY.out; simp; omega) HBz ?_; intro l1 ad1 cap1 w1 hl1 ho1 hb1 _)
    have hl1e : l1 = y0 := by rw [hl1.out, List.nil_append]
    have HL1 : Hid (l1.length ≤ 60) := Lib.hid (by rw [hl1e]; exact HY.out)
    have HB1 := Lib.hid (hB0.trans hb1)
    have CR := Lib.hid (Buf.read_any ad1 l1.length cap1 l1 w1 rfl (by have := HL1.out; omega) ho1.rd.1 ho1.pos.2.2.1)
    have HS1 : Hid (Buf.RdS w1 w1.heap.size ad1 l1.length cap1 l1) := Lib.hid ⟨rfl, ho1.rd.1, Buf.own_lies ho1, ho1.pos.1, by have := ho1.pos.2.1; unfold maxLen at this; omega⟩
    clear HO HRD HBz hl1 hl1e ho1 hb1 HE HY
    go_wp2_with fail
    refine (CR.out).mono ?_; rintro e w2 ⟨g, rfl, hr2, hB2, hge2, hsz2⟩
    have HB2 := Lib.hid (HB1.out.trans (hB2.mono HB1.out.size))
    have CG := Lib.hid (Hed.hget_any g (0, l1) w2 hr2)
    rw [Hed.ht_rg] at CG
    have HRest := Lib.hid (Hed.gt_rest l1)
    have HBody := Lib.hid (Hed.rg_body l1)
    have CRg : Hid (∀ W, Below w1.heap.size w1 W → Calls Try.prog 24 #[.slice ad1 l1.length cap1] W (Hed.RGP W w1.heap.size (Hed.rg l1))) := Lib.hid (fun W hW => Hed.rget_any ad1 l1.length cap1 w1.heap.size l1 W (HS1.out.kept fun b hb => hW.block b hb) hW.size)
    have HK2 := Lib.hid hB2
    have hg1 : w1.heap.size ≤ g := hge2
    have hg0 : w.heap.size ≤ g := by have := HB1.out.size; omega
    generalize (Hed.gt (0, l1)).2.2 = s2 at *
    generalize Hed.rg l1 = R at *
    obtain ⟨P, rest, c⟩ := R
    simp only at CG HRest HBody
    have CS := Lib.hid (fun W => CSm.out P W HBody.out)
    rw [Hed.eqP_self] at CS
    obtain ⟨kind, ⟨t, f, s⟩, hops, no, to, index, total, stamp, value, ad, cap, body⟩ := P
    have HCl : Hid (∀ (W : World) (b : Nat), Buf.Blk W b 27 #[.int .i64 kind, .int .i64 t, .int .i64 f, .int .u32 s, .int .i64 hops, .int .i64 no, .int .i64 to, .int .i64 index, .int .i64 total, .int .i64 stamp, .int .i64 value, .slice ad body.length cap] → _ ∧ _) := Lib.hid (fun W b h => Hed.blk_cells (p := ⟨kind, (t, f, s), hops, no, to, index, total, stamp, value, ad, cap, body⟩) h)
    unfold Hed.pval Hed.Pk.cells at CG CS
    simp only at CG CS HCl
    clear hr2 hB2 hge2 hsz2 CSm HS1 CR
    go_wp2_with fail
    refine (CG.out).mono ?_; rintro e w3 ⟨rfl, hr3, hst3⟩
    have HR3 := Lib.hid hr3
    have HB3 := Lib.hid (HB2.out.trans (hst3.below.mono hg0))
    have HK3 := Lib.hid (HK2.out.trans (hst3.below.mono hg1))
    clear hr3 hst3 CG HK2
    go_upto_region 4 with fail
    obtain ⟨W4, hW4⟩ : ∃ W4, Hid (W4 = w3.alloc (.cells #[.int .i64 kind, .int .i64 t, .int .i64 f, .int .u32 s, .int .i64 hops, .int .i64 no, .int .i64 to, .int .i64 index, .int .i64 total, .int .i64 stamp, .int .i64 value, .slice ad body.length cap] 27)) := ⟨_, Lib.hid rfl⟩
    rw [← hW4.out]
    have hX := Hed.one_box w3 W4 _ _ hW4.out
    have HB4 := Lib.hid (HB3.out.trans (hX.1.mono HB3.out.size))
    have HK4 := Lib.hid (HK3.out.trans (hX.1.mono HK3.out.size))
    have HG4 := Lib.hid hX.1
    have b4 := Lib.hid hX.2
    clear hX hW4 HK3
    go_wp2_with fail
    refine (CRg.out W4 HK4.out).mono ?_; rintro e w5 ⟨ad5, len5, cap5, rfl, hB5, hr5⟩
    have HB5 := Lib.hid (HB4.out.trans (hB5.mono HB4.out.size))
    have HG5 := Lib.hid (HG4.out.trans (hB5.mono HG4.out.size))
    have b5 := Lib.hid (b4.out.below hB5)
    have hrl := hr5.len_
    unfold Hed.pval Hed.Pk.cells
    simp only at hrl ⊢
    clear hB5 hr5 CRg HK4 HG4 b4
    go_upto_region 5 with fail
    obtain ⟨W6, hW6⟩ : ∃ W6, Hid (W6 = w5.alloc (.cells #[.int .i64 kind, .int .i64 t, .int .i64 f, .int .u32 s, .int .i64 hops, .int .i64 no, .int .i64 to, .int .i64 index, .int .i64 total, .int .i64 stamp, .int .i64 value, .slice ad body.length cap] 27)) := ⟨_, Lib.hid rfl⟩
    rw [← hW6.out]
    have hX := Hed.one_box w5 W6 _ _ hW6.out
    have HB6 := Lib.hid (HB5.out.trans (hX.1.mono HB5.out.size))
    have HG6 := Lib.hid (HG5.out.trans (hX.1.mono HG5.out.size))
    have HZ6 := Lib.hid (HCl.out W6 _ hX.2)
    have HZ4 := Lib.hid (HCl.out W6 _ (b5.out.below hX.1))
    obtain ⟨c0, c1, c2, c3, c4, c5, c6, c7, c8, c9, c10, c11⟩ := HZ4.out
    obtain ⟨d0, d1, d2, d3, d4, d5, d6, d7, d8, d9, d10, d11⟩ := HZ6.out
    clear hX hW6 HZ4 HZ6 b5 HG5 HCl
    by_cases hc : c = 0
    · subst hc
      have hs2 := HRest.out rfl
      subst hs2
      have CL := Lib.hid (fun W (hW : Below W6.heap.size W6 W) => Buf.left_any g (0, rest) W (HR3.out.kept (HG6.out.trans (hW.mono HG6.out.size))))
      simp only [hrl] at CL
      go_wp2_with fail
      refine (CS.out _).mono ?_; rintro e w7 ⟨rfl, hB7⟩
      have CL := Lib.hid (CL.out w7 hB7)
      have HB7 := Lib.hid (HB6.out.trans (hB7.mono HB6.out.size))
      clear hB7
      go_wp2_with fail
      refine (CL.out).mono ?_; rintro e w' ⟨rfl, rfl⟩
      go_wp2_with fail
      refine (CNl.out _).mono ?_; rintro e w8 ⟨rfl, hB8⟩
      have HB8 := Lib.hid (HB7.out.trans (hB8.mono HB7.out.size))
      clear hB8
      go_upto_region 8 with fail
      have HB9 : Hid (∀ o, Below w.heap.size w (w8.alloc o)) := Lib.hid (fun o => HB8.out.alloc HB8.out.size o)
      go_wp2_with fail
      refine (CW.out _).mono ?_; rintro e w9 ⟨rfl, hB9⟩
      have HB10 := Lib.hid ((HB9.out _).trans (hB9.mono (HB9.out _).size))
      clear hB9
      go_wp2_with fail
      go_ret
      exact ⟨rfl, HB10.out⟩
    · have hcb : ((c : Int) == 0) = false := by simp; omega
      clear hc HRest
      go_wp2_with fail
      refine (CS.out _).mono ?_; rintro e w7 ⟨rfl, hB7⟩
      have HB7 := Lib.hid (HB6.out.trans (hB7.mono HB6.out.size))
      clear hB7
      go_wp2_with fail
      refine (CNl.out _).mono ?_; rintro e w8 ⟨rfl, hB8⟩
      have HB8 := Lib.hid (HB7.out.trans (hB8.mono HB7.out.size))
      clear hB8
      go_upto_region 8 with fail
      have HB9 : Hid (∀ o, Below w.heap.size w (w8.alloc o)) := Lib.hid (fun o => HB8.out.alloc HB8.out.size o)
      go_wp2_with fail
      refine (CW.out _).mono ?_; rintro e w9 ⟨rfl, hB9⟩
      have HB10 := Lib.hid ((HB9.out _).trans (hB9.mono (HB9.out _).size))
      clear hB9
      go_wp2_with fail
      go_ret
      exact ⟨rfl, HB10.out⟩

set_option maxRecDepth 100000 in
theorem lifted (os : Os) (started : os.Started) (H : Type) (enc : TypeId × Value → H) :
    ReturnsInHanded {} Try.checked os 5 .any (Rows.headGetsSpec.pre6 enc Try.prog Try.f5 Rows.headGetsRow.domain false) (Rows.headGetsSpec.post enc Try.prog Try.f5 false true false false) := by
  refine returnsInHanded_of_change (C := Try.checked) own started (by kernel_rfl) Try.func5
    (ChangeSpec.witness6 (enc := enc) (C := Try.checked) false ⟨#[], #[.slice none 0 0], []⟩ 8 (by kernel_rfl) (by kernel_rfl) (by kernel_rfl) (by kernel_rfl)) ?_
  intro W base args ds gs before hval0 hW hcnd _
  have hval : ∀ (j : Nat) t v, Try.f5.params[j]? = some t → args[j]? = some v → Value.okWide Try.prog W .any base t v := hval0
  have hW' := hW
  obtain ⟨p, q, hA0, hV, rfl, hfz, hnd⟩ := hW
  have hA : DataW.TrodAll enc Try.prog W 0 (fun _ => true) true Try.f5.params.toList args.toList ds p := hA0
  rw [Try.params5] at hA hval
  obtain ⟨v0, vs0, d0, ds0, p0, q0, hargs, rfl, rfl, h0, r0⟩ := trodAll_cons hA
  obtain ⟨rfl, rfl, rfl⟩ := trodAll_nil r0
  obtain rfl : args = #[v0] := by cases args; simp_all
  obtain ⟨rfl, rfl⟩ := trodVars_none hV
  obtain ⟨a0, len0, cap0, rfl⟩ := okWide_slice Try.underlying25 (hval 0 25 v0 rfl rfl)
  have k0 := h0
  have lt0 : ∀ x ∈ p0, x.block < W.heap.size := by obtain ⟨m, hm⟩ := k0; exact DataW.trod_lt m _ _ _ hm
  obtain ⟨z0, w0⟩ : ∃ zs, IsRow .u8 W a0 len0 cap0 zs := by
    obtain ⟨fuel, hf⟩ := h0
    rcases open_ints Try.underlying25 Try.underlying5 (by kernel_rfl) hf with ⟨hcs, _⟩ | ⟨x, l, c, zs, hcs, _, hl, hm, hz, _, hcell, hwz⟩
    · simp [Value.cells] at hcs
      obtain ⟨rfl, rfl, rfl⟩ := hcs
      exact ⟨[], .inl ⟨rfl, rfl, rfl, rfl⟩⟩
    · simp [Value.cells] at hcs
      obtain ⟨rfl, rfl, rfl⟩ := hcs
      exact ⟨zs, .inr ⟨_, rfl, hl, hm, by simpa using hz, hcell, hwz⟩⟩
  clear hA0 hval0
  refine (walk a0 len0 cap0 z0 W w0).mono fun e W' ⟨he, bel⟩ => ?_
  subst he
  exact ⟨_, rfl, _, _, _, [], _, [], hW', trodAll_mk1 (shut_bool Try.underlying4 _), (trodAll_cons_mk (Below.trod laidOut (by kernel_rfl) (of_decide_eq_true (by kernel_rfl)) k0 bel lt0) trodAll_mk0), rfl, bel.frame _, fun h => by cases h⟩

theorem over : Rows.headGetsRow.holds Try.pinned (OpenSpec.ofChange Rows.headGetsSpec) :=
  OpenClaim.holds_of_wide 5 Try.f5 rfl rfl rfl rfl rfl rfl rfl ⟨rfl, rfl, rfl, rfl, rfl⟩ rfl rfl rfl rfl rfl (by kernel_rfl) Try.func5 (by kernel_rfl)
    (of_decide_eq_true (by kernel_rfl)) (by unfold Func.isWrapper; first | (rw [if_pos (by decide +kernel)]; kernel_rfl) | (rw [if_neg (by decide +kernel)]; exact ⟨rfl, rfl⟩))
    (fun os started H enc _ => lifted os started H enc)

theorem proved : Rows.HeadGetsSaid := over
#print axioms proved
end Go.Proofs.Ytliblcjfccijjaa.lawHeadGets
