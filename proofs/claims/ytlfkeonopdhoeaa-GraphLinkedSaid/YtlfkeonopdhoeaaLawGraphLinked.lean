/- Whether any two numbers are linked nodes of any graph is as the document says, both ways. -/
import Derived.Test.YtlfkeonopdhoeaaRows
import Derived.WalkKit
import Derived.ProofKit
import Derived.OpenShut
import Derived.ShutString
import Derived.ChangeOld
import Derived.Below
import Derived.Test.YtlfkeonopdhoeaaGrfX
import Derived.Deep.Cut
import Derived.BigRegion
import Derived.Deep.RegionHeldLaw
namespace Go.Proofs.Ytlfkeonopdhoeaa.lawGraphLinked
open Go.ChangeShapes Go.WideShapes Go.ChangeAt Go.RowKit
open Go.ChangeMaps (open_string shut_string)
set_option linter.unusedVariables false

theorem own : ownKnob Try.prog.godebug = none := by kernel_rfl
theorem laidOut : laidOutB Try.prog = true := by kernel_rfl

/-! The walk: the Go text returns true and writes nothing that was there. -/
set_option linter.unusedSimpArgs false in
set_option maxRecDepth 100000 in
set_option maxHeartbeats 4000000 in
theorem walk (a0 : Int) (a1 : Option Addr) (len1 cap1 : Nat) (z1 : List Grf.Pr) (a2 : Grf.Pr) (w : World) (w0 : (Lit.int .i64 a0).wf = true) (w1 : Grf.Links w w.heap.size a1 len1 cap1 z1) (w2 : Grf.inI a2.1 ∧ Grf.inI a2.2) :
    Calls Try.prog 4 #[.int .i64 a0, .slice a1 len1 cap1, Grf.pval a2] w fun e w' => e = .returned (.bool true) ∧ Below w.heap.size w w' := by
  have hix := w2.1
  have hiy := w2.2
  clear w2
  obtain ⟨x, y⟩ := a2
  simp only at hix hiy
  unfold Grf.pval
  obtain ⟨l0, u0⟩ := bounds_i64 w0
  have CC := Lib.hid (fun W (hB : Below w.heap.size w W) => Grf.cut_any a1 len1 cap1 z1 W w1.len_ w1.le w1.max (w1.rd.below hB) w1.nil)
  have HI : Hid (∀ p ∈ z1.take 60, Grf.inI p.1 ∧ Grf.inI p.2) := Lib.hid (fun p hp => w1.ok p (List.mem_of_mem_take hp))
  have hk : (z1.take 60).length ≤ 60 := by rw [List.length_take]; omega
  have C9 := Lib.hid (fun W => Grf.works16_any W)
  clear w1 w0
  generalize z1.take 60 = zs at *
  obtain ⟨wb, hwb⟩ : ∃ wb, Hid (wb = w.alloc (.cells #[.int .i64 x, .int .i64 y] 35)) := ⟨_, Lib.hid rfl⟩
  have HBb : Hid (Below w.heap.size w wb) := Lib.hid (by rw [hwb.out]; exact (Below.refl _ _).alloc (Nat.le_refl _) _)
  have HCb : Hid (∀ W, Below wb.heap.size wb W → W.cell? ⟨w.heap.size, 0, none⟩ = some (.int .i64 x) ∧ W.cell? ⟨w.heap.size, 1, none⟩ = some (.int .i64 y)) := Lib.hid (by rw [hwb.out]; exact fun W h => Grf.two_cells w W x y _ h)
  rcases Grf.ways a0 zs with ⟨c, hc, hbad⟩ | ⟨n, rfl, h1, h64, hz⟩
  · have CN := Lib.hid (fun ad cap W hr => Grf.new_bad a0 zs c hc hbad ad zs.length cap W rfl (by omega) HI.out hr)
    have CR := Lib.hid (fun ad cap W hr => Grf.rnew_bad a0 zs c hc hbad ad zs.length cap W rfl (by omega) hr)
    have hcb : (c != 0) = true := by simpa using hc
    clear hc hbad HI
    go_enter Try.func4, Try.ntmps4
    go_upto_region 1 with fail
    rw [← hwb.out]
    go_wp2_with fail
    refine (CC.out wb HBb.out).mono ?_; rintro e w1 ⟨ad, cap, rfl, hown, hB1⟩
    have HR := Lib.hid hown.rd.1
    clear hown CC
    go_wp2_with fail
    refine (CN.out _ _ _ HR.out).mono ?_; rintro e w2 ⟨rfl, hB2⟩
    have hB12 := Grf.bt hB1 hB2
    go_wp2_with fail
    refine (CR.out _ _ _ (HR.out.below hB2)).mono ?_; rintro e w3 ⟨rfl, hB3⟩
    have hB13 := Grf.bt hB12 hB3
    clear CN CR hB1 hB2 hB12 hB3 HR
    obtain ⟨w4, hw4⟩ : ∃ w4, Hid (w4 = w3.alloc (.cells #[.int .i64 0, .slice none 0 0] 29)) := ⟨_, Lib.hid rfl⟩
    obtain ⟨hB4, -, hb4⟩ := Grf.gbox w3 w4 0 _ hw4.out
    have HB4 := Lib.hid (Grf.bt (Grf.bt HBb.out hB13) hB4)
    have HCX : Hid (∀ W, Below w4.heap.size w4 W → W.cell? ⟨w.heap.size, 0, none⟩ = some (.int .i64 x) ∧ W.cell? ⟨w.heap.size, 1, none⟩ = some (.int .i64 y)) := Lib.hid (fun W h => HCb.out W (Grf.bt (Grf.bt hB13 hB4) h))
    have HBX : Hid (∀ W, Below w4.heap.size w4 W → W.cell? ⟨w3.heap.size, 0, none⟩ = some (.int .i64 0) ∧ W.cell? ⟨w3.heap.size, 1, none⟩ = some (.slice none 0 0)) := Lib.hid (fun W hB => And.intro ((hb4.below hB).cell 0) ((hb4.below hB).cell 1))
    have CLxy : Hid (∀ W, Below w4.heap.size w4 W → Calls Try.prog 14 #[.pointer none, .int .i64 x, .int .i64 y] W fun e w' => e = .returned (.bool false) ∧ Below W.heap.size W w') := Lib.hid (fun W _ => (Grf.linked_nil x y W).mono (by rintro e w' ⟨rfl, rfl⟩; exact ⟨rfl, Below.refl _ _⟩))
    have CLyx : Hid (∀ W, Below w4.heap.size w4 W → Calls Try.prog 14 #[.pointer none, .int .i64 y, .int .i64 x] W fun e w' => e = .returned (.bool false) ∧ Below W.heap.size W w') := Lib.hid (fun W _ => (Grf.linked_nil y x W).mono (by rintro e w' ⟨rfl, rfl⟩; exact ⟨rfl, Below.refl _ _⟩))
    have CRxy : Hid (∀ W, Below w4.heap.size w4 W → Calls Try.prog 15 #[.agg #[.int .i64 0, .slice none 0 0], .int .i64 x, .int .i64 y] W fun e w' => e = .returned (.bool false) ∧ Below W.heap.size W w') := Lib.hid (fun W _ => Grf.rlinked_any 0 none 0 0 [] x y W rfl (by omega) (.inl rfl))
    clear hB4 hb4 hB13
    go_upto_region 4 with fail
    rw [← hw4.out]
    obtain ⟨x0, x1⟩ := HCX.out w4 (Below.refl _ _)
    go_region
    go_upto_region 5 with fail
    go_region_held_law (fun W => Below w4.heap.size w4 W ∧ W.cell? ⟨w3.heap.size, 0, none⟩ = some (.int .i64 0) ∧ W.cell? ⟨w3.heap.size, 1, none⟩ = some (.slice none 0 0))
      ((refine ⟨?_, HBX.out _ ?_⟩ <;> (repeat' (first | assumption | exact (‹Below w4.heap.size w4 _ ∧ _›).1 | exact Below.refl _ _ | refine Below.drew ?_))))
      (first
        | (go_at_call 14; (first | (with_reducible refine (CLxy.out _ ?_).mono ?_) | (with_reducible refine (CLyx.out _ ?_).mono ?_)); (focus (repeat' (first | assumption | exact (‹Below w4.heap.size w4 _ ∧ _›).1 | exact Below.refl _ _ | refine Below.drew ?_))); rintro e W5 ⟨rfl, hBW⟩; have hBV := Grf.bt (‹Below w4.heap.size w4 _ ∧ _›).1 hBW)
        | (go_at_call 15; (with_reducible refine (CRxy.out _ ?_).mono ?_); (focus (repeat' (first | assumption | exact (‹Below w4.heap.size w4 _ ∧ _›).1 | exact Below.refl _ _ | refine Below.drew ?_))); rintro e W5 ⟨rfl, hBW⟩; have hBV := Grf.bt (‹Below w4.heap.size w4 _ ∧ _›).1 hBW)
        | (go_at_call 13; (with_reducible refine (C9.out _).mono ?_); rintro e W5 ⟨rfl, hBW⟩; have hBV := Grf.bt (‹Below w4.heap.size w4 _ ∧ _›).1 hBW))
    all_goals (
      have HF := Lib.hid (Grf.bt HB4.out (‹Below w4.heap.size w4 _ ∧ _›).1)
      clear CLxy CLyx CRxy C9 HBX HCX
      go_wp2_with fail
      go_ret
      exact ⟨rfl, HF.out⟩)
  · have CN := Lib.hid (fun ad cap W hr => Grf.new_good n zs h1 h64 hz ad zs.length cap W rfl (by omega) HI.out hr)
    have CR := Lib.hid (fun ad cap W hr => Grf.rnew_good n zs h1 h64 hz ad zs.length cap W rfl (by omega) hr)
    have HOK := Lib.hid (Grf.ok_of hz)
    clear hz HI
    go_enter Try.func4, Try.ntmps4
    go_upto_region 1 with fail
    rw [← hwb.out]
    go_wp2_with fail
    refine (CC.out wb HBb.out).mono ?_; rintro e w1 ⟨ad, cap, rfl, hown, hB1⟩
    have HR := Lib.hid hown.rd.1
    clear hown CC
    go_wp2_with fail
    refine (CN.out _ _ _ HR.out).mono ?_; rintro e w2 ⟨g, b, rfl, hG, hB2⟩
    have hB12 := Grf.bt hB1 hB2
    go_wp2_with fail
    refine (CR.out _ _ _ (HR.out.below hB2)).mono ?_; rintro e w3 ⟨ad3, cap3, rfl, hR3, hB3⟩
    have hB13 := Grf.bt hB12 hB3
    have HG3 := Lib.hid (hG.below hB3)
    have HR3 := Lib.hid hR3
    have HR13 := Lib.hid ((HR.out.below hB2).below hB3)
    clear CN CR hB1 hB2 hB12 hB3 HR hG hR3
    obtain ⟨w4, hw4⟩ : ∃ w4, Hid (w4 = w3.alloc (.cells #[.int .i64 (n : Int), .slice ad3 zs.length cap3] 29)) := ⟨_, Lib.hid rfl⟩
    obtain ⟨hB4, -, hb4⟩ := Grf.gbox w3 w4 (n : Int) _ hw4.out
    have HG4 := Lib.hid (HG3.out.below hB4)
    have HR4 := Lib.hid (HR3.out.below hB4)
    have HB4 := Lib.hid (Grf.bt (Grf.bt HBb.out hB13) hB4)
    have c0 : w4.cell? ⟨w3.heap.size, 0, none⟩ = some (.int .i64 (n : Int)) := hb4.cell 0
    have c1 : w4.cell? ⟨w3.heap.size, 1, none⟩ = some (.slice ad3 zs.length cap3) := hb4.cell 1
    have HBX : Hid (∀ W, Below w4.heap.size w4 W → W.cell? ⟨w3.heap.size, 0, none⟩ = some (.int .i64 (n : Int)) ∧ W.cell? ⟨w3.heap.size, 1, none⟩ = some (.slice ad3 zs.length cap3)) := Lib.hid (fun W hB => And.intro ((hb4.below hB).cell 0) ((hb4.below hB).cell 1))
    have HCX : Hid (∀ W, Below w4.heap.size w4 W → W.cell? ⟨w.heap.size, 0, none⟩ = some (.int .i64 x) ∧ W.cell? ⟨w.heap.size, 1, none⟩ = some (.int .i64 y)) := Lib.hid (fun W h => HCb.out W (Grf.bt (Grf.bt hB13 hB4) h))
    have CLxy := Lib.hid (fun W (hB : Below w4.heap.size w4 W) => Grf.linked_any g b n zs x y hix hiy W (HG4.out.below hB))
    have CLyx := Lib.hid (fun W (hB : Below w4.heap.size w4 W) => Grf.linked_any g b n zs y x hiy hix W (HG4.out.below hB))
    rw [Grf.lk_comm zs y x] at CLyx
    have CRxy := Lib.hid (fun W (hB : Below w4.heap.size w4 W) => Grf.rlinked_any (n : Int) ad3 zs.length cap3 zs x y W rfl (by omega) (HR4.out.below hB))
    unfold Grf.gval at CRxy
    generalize Grf.lk zs x y = r at *
    clear hB4 hb4 hB13 HG3 HR3 HR13 c0 c1
    clear HG4 HR4
    go_upto_region 4 with fail
    rw [← hw4.out]
    obtain ⟨x0, x1⟩ := HCX.out w4 (Below.refl _ _)
    go_region
    go_upto_region 5 with fail
    go_region_held_law (fun W => Below w4.heap.size w4 W ∧ W.cell? ⟨w3.heap.size, 0, none⟩ = some (.int .i64 (n : Int)) ∧ W.cell? ⟨w3.heap.size, 1, none⟩ = some (.slice ad3 zs.length cap3))
      ((refine ⟨?_, HBX.out _ ?_⟩ <;> (repeat' (first | assumption | exact (‹Below w4.heap.size w4 _ ∧ _›).1 | exact Below.refl _ _ | refine Below.drew ?_))))
      (first
        | (go_at_call 14; (first | (with_reducible refine (CLxy.out _ ?_).mono ?_) | (with_reducible refine (CLyx.out _ ?_).mono ?_)); (focus (repeat' (first | assumption | exact (‹Below w4.heap.size w4 _ ∧ _›).1 | exact Below.refl _ _ | refine Below.drew ?_))); rintro e W5 ⟨rfl, hBW⟩; have hBV := Grf.bt (‹Below w4.heap.size w4 _ ∧ _›).1 hBW)
        | (go_at_call 15; (with_reducible refine (CRxy.out _ ?_).mono ?_); (focus (repeat' (first | assumption | exact (‹Below w4.heap.size w4 _ ∧ _›).1 | exact Below.refl _ _ | refine Below.drew ?_))); rintro e W5 ⟨rfl, hBW⟩; have hBV := Grf.bt (‹Below w4.heap.size w4 _ ∧ _›).1 hBW)
        | (go_at_call 13; (with_reducible refine (C9.out _).mono ?_); rintro e W5 ⟨rfl, hBW⟩; have hBV := Grf.bt (‹Below w4.heap.size w4 _ ∧ _›).1 hBW))
    all_goals (
      have HF := Lib.hid (Grf.bt HB4.out (‹Below w4.heap.size w4 _ ∧ _›).1)
      clear CLxy CLyx CRxy C9 HBX HCX
      go_wp2_with fail
      go_ret
      exact ⟨rfl, HF.out⟩)

set_option maxRecDepth 100000 in
theorem lifted (os : Os) (started : os.Started) (H : Type) (enc : TypeId × Value → H) :
    ReturnsInHanded {} Try.checked os 4 .any (Rows.graphLinkedSpec.pre6 enc Try.prog Try.f4 Rows.graphLinkedRow.domain false) (Rows.graphLinkedSpec.post enc Try.prog Try.f4 false true false false) := by
  refine returnsInHanded_of_change (C := Try.checked) own started (by kernel_rfl) Try.func4
    (ChangeSpec.witness6 (enc := enc) (C := Try.checked) false ⟨#[], #[.int .i64 0, .slice none 0 0, .agg #[.int .i64 0, .int .i64 0]], []⟩ 8 (by kernel_rfl) (by kernel_rfl) (by kernel_rfl) (by kernel_rfl)) ?_
  intro W base args ds gs before hval0 hW hcnd _
  have hval : ∀ (j : Nat) t v, Try.f4.params[j]? = some t → args[j]? = some v → Value.okWide Try.prog W .any base t v := hval0
  have hW' := hW
  obtain ⟨p, q, hA0, hV, rfl, hfz, hnd⟩ := hW
  have hA : DataW.TrodAll enc Try.prog W 0 (fun _ => true) true Try.f4.params.toList args.toList ds p := hA0
  rw [Try.params4] at hA hval
  obtain ⟨v0, vs0, d0, ds0, p0, q0, hargs, rfl, rfl, h0, r0⟩ := trodAll_cons hA
  obtain ⟨v1, vs1, d1, ds1, p1, q1, rfl, rfl, rfl, h1, r1⟩ := trodAll_cons r0
  obtain ⟨v2, vs2, d2, ds2, p2, q2, rfl, rfl, rfl, h2, r2⟩ := trodAll_cons r1
  obtain ⟨rfl, rfl, rfl⟩ := trodAll_nil r2
  obtain rfl : args = #[v0, v1, v2] := by cases args; simp_all
  obtain ⟨rfl, rfl⟩ := trodVars_none hV
  obtain ⟨a0, rfl, rfl, rfl, w0⟩ := open_int Try.underlying3 (hval 0 3 v0 rfl rfl) h0
  obtain ⟨a1, len1, cap1, rfl⟩ := okWide_slice Try.underlying22 (hval 1 22 v1 rfl rfl)
  have k1 := h1
  have lt1 : ∀ x ∈ p1, x.block < W.heap.size := by obtain ⟨m, hm⟩ := k1; exact DataW.trod_lt m _ _ _ hm
  obtain ⟨z1, w1⟩ : ∃ zs, Grf.Links W W.heap.size a1 len1 cap1 zs := by
    obtain ⟨fuel, hf⟩ := h1
    exact Grf.open_links rfl (by simpa [Value.cells] using hf)
  have k2 := h2
  have lt2 : ∀ x ∈ p2, x.block < W.heap.size := by obtain ⟨m, hm⟩ := k2; exact DataW.trod_lt m _ _ _ hm
  obtain ⟨a2, rfl, w2⟩ := Grf.open_pair (hval 2 35 v2 rfl rfl) h2
  clear hA0 hval0
  refine (walk a0 a1 len1 cap1 z1 a2 W w0 w1 w2).mono fun e W' ⟨he, bel⟩ => ?_
  subst he
  exact ⟨_, rfl, _, _, _, [], _, [], hW', trodAll_mk1 (shut_bool Try.underlying4 _), (trodAll_cons_mk (shut_int Try.underlying3 w0) (trodAll_cons_mk (Below.trod laidOut (by kernel_rfl) (of_decide_eq_true (by kernel_rfl)) k1 bel lt1) (trodAll_cons_mk (Below.trod laidOut (by kernel_rfl) (of_decide_eq_true (by kernel_rfl)) k2 bel lt2) trodAll_mk0))), rfl, bel.frame _, fun h => by cases h⟩

theorem over : Rows.graphLinkedRow.holds Try.pinned (OpenSpec.ofChange Rows.graphLinkedSpec) :=
  OpenClaim.holds_of_wide 4 Try.f4 rfl rfl rfl rfl rfl rfl rfl ⟨rfl, rfl, rfl, rfl, rfl⟩ rfl rfl rfl rfl rfl (by kernel_rfl) Try.func4 (by kernel_rfl)
    (of_decide_eq_true (by kernel_rfl)) (by unfold Func.isWrapper; first | (rw [if_pos (by decide +kernel)]; kernel_rfl) | (rw [if_neg (by decide +kernel)]; exact ⟨rfl, rfl⟩))
    (fun os started H enc _ => lifted os started H enc)

theorem proved : Rows.GraphLinkedSaid := over
#print axioms proved
end Go.Proofs.Ytlfkeonopdhoeaa.lawGraphLinked
