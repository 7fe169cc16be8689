/- Turns of any clocks change nothing that was handed in. -/
import Derived.Test.YtkcjllkhmncfdaaDoorRows
import Derived.Test.YtkcjllkhmncfdaaDoorTie
import Derived.Test.YtkcjllkhmncfdaaDoorCards
import Derived.SevenTiedAt
import Derived.LaidMore
import Derived.Stop.Joined
import Derived.WalkKit
import Derived.ProofKit
import Derived.OpenShut
import Derived.ShutString
import Derived.ChangeOld
import Derived.Below
import Derived.Test.YtkcjllkhmncfdaaDoorMndH
namespace Go.Proofs.YtkcjllkhmncfdaaDoor.lawMendKeeps
open Go.ChangeShapes Go.WideShapes Go.ChangeAt Go.RowKit
open Go.ChangeMaps (open_string shut_string)
set_option linter.unusedVariables false

theorem own : ownKnob Tryd.prog.godebug = none := by kernel_rfl
theorem laidOut : laidOutB Tryd.prog = true := by kernel_rfl

/-- What the walk is told of a slice of integers that came in. -/
def IsRow (k : IntKind) (w : World) (a : Option Addr) (len cap : Nat) (zs : List Int) : Prop :=
  (a = none ∧ len = 0 ∧ cap = 0 ∧ zs = []) ∨
  ∃ x, a = some x ∧ len ≤ cap ∧ cap ≤ maxLen ∧ zs.length = cap ∧ (∀ i, i < zs.length → w.cell? (x.add i) = some (.int k (zs.getD i 0))) ∧ ∀ n ∈ zs, (Lit.int k n).wf = true

/-! The walk: the Go text returns true and writes nothing that was there. -/
set_option linter.unusedSimpArgs false in
set_option maxRecDepth 100000 in
set_option maxHeartbeats 4000000 in
theorem walk (a0 : Option Addr) (len0 cap0 : Nat) (z0 : List Int) (a1 : Int) (a2 : Mnd.Tu) (w : World) (w0 : IsRow .i64 w a0 len0 cap0 z0) (w1 : (Lit.int .i64 a1).wf = true) (w2 : Mnd.OkTu w a2) (hT : Nodes.Tabs w) :
    Calls Tryd.prog 5 #[.slice a0 len0 cap0, .int .i64 a1, Mnd.tuval a2] w fun e w' => e = .returned (.bool true) ∧ Below w.heap.size w w' := by
  obtain ⟨l, hsl, hll, h64⟩ := I64s.row_sl w0
  obtain ⟨t, hok, htc⟩ := Mnd.tn_of w2
  have HT := Lib.hid hT
  have HC : Hid (∀ W, Below w.heap.size w W → Calls Tryd.prog 11 #[.slice a0 len0 cap0] W (I64s.ListPost (l.take 8) W)) := Lib.hid (fun W hB => by
    have := Mnd.mcut_any a0 cap0 l W (hsl.below hB)
    rwa [hll] at this)
  have hZ8 : (l.take 8).length ≤ 8 := by rw [List.length_take]; omega
  have hZZ : (l.take 8).take 8 = l.take 8 := by rw [List.take_take]; rfl
  have HOk := Lib.hid (fun W (hB : Below w.heap.size w W) => hok.below hB)
  obtain ⟨w0', hw0⟩ : ∃ w0', Hid (w0' = w.alloc (.cells (Mnd.tucells a2) 42)) := ⟨_, Lib.hid rfl⟩
  have HB0 : Hid (Below w.heap.size w w0') := Lib.hid (by rw [hw0.out]; exact (Below.refl _ _).alloc (Nat.le_refl _) _)
  have HBx : Hid (Rw.Blk w0' w.heap.size 42 (Mnd.tucells a2)) := Lib.hid (by rw [hw0.out]; exact Rw.Blk.new _ _ _)
  unfold Mnd.tuval
  rw [htc] at hw0 HBx ⊢
  unfold Mnd.encT at hw0 HBx ⊢
  have CO : Hid (∀ W : World, Below w.heap.size w W → Calls Tryd.prog 13 #[.slice (some ⟨W.heap.size, 0, none⟩) 2 2] (W.alloc (.cells #[.int .u64 (t.s : Int), .slice t.ea t.rs.length t.ec, .slice t.da t.ds.length t.dc, .int .u64 (t.s : Int), .slice t.ea t.rs.length t.ec, .slice t.da t.ds.length t.dc] 42))
      fun e w' => ∃ ad' cap', e = .returned (.slice ad' 2 cap') ∧ Mnd.RdT w' ad' [t, t] ∧ Below W.heap.size W w') := Lib.hid (fun W hB => by
    refine (Mnd.ours_any (some ⟨W.heap.size, 0, none⟩) 2 [t, t] _ (Mnd.two_turns W t) (by simp)).mono ?_
    rintro e w' ⟨ad', cap', rfl, hr, hb⟩
    exact ⟨ad', cap', rfl, hr, ((Below.refl _ _).alloc (Nat.le_refl _) _).trans (hb.mono (by rw [World.size_alloc]; omega))⟩)
  have CR : Hid (∀ W ad cap adl capl, Below w.heap.size w W → I64s.Sl W ad cap (l.take 8) → Mnd.RdT W adl [t, t] → Calls Tryd.prog 12 #[.slice ad (l.take 8).length cap, .int .i64 a1, .slice adl 2 capl] W fun e w' => (∃ ad' cap', e = .returned (.slice ad' (l.take 8).length cap')) ∧ Below W.heap.size W w') := Lib.hid (fun W ad cap adl capl hB hs hr =>
    Mnd.run_any ad cap (l.take 8) a1 adl capl [t, t] W hs (by omega) hr (fun x hx => by
      have : x = t := by simpa using hx
      subst this
      exact HOk.out W hB) (by simp) (HT.out.below hB))
  have CC2 : Hid (∀ W ad cap, I64s.Sl W ad cap (l.take 8) → Calls Tryd.prog 11 #[.slice ad (l.take 8).length cap] W (I64s.ListPost (l.take 8) W)) := Lib.hid (fun W ad cap hs => by
    have := Mnd.mcut_any ad cap (l.take 8) W hs
    rwa [hZZ] at this)
  have CS : Hid (∀ W ad1 cap1 ad2 cap2, I64s.Sl W ad1 cap1 (l.take 8) → I64s.Sl W ad2 cap2 (l.take 8) → Calls Tryd.prog 14 #[.slice ad1 (l.take 8).length cap1, .slice ad2 (l.take 8).length cap2] W fun e w' => e = .returned (.bool true) ∧ Below W.heap.size W w') := Lib.hid (fun W ad1 cap1 ad2 cap2 h1 h2 =>
    Mnd.msame_yes ad1 ad2 cap1 cap2 (l.take 8) W h1 h2 (by omega))
  have CW := Lib.hid (fun W (hB : Below w.heap.size w W) => Mnd.works27_any W (HT.out.below hB))
  unfold I64s.ListPost at HC CC2
  clear w0 w1 w2 hsl h64 hok htc hT hZZ HT HOk
  generalize l.take 8 = Z at *
  generalize Z.length = n at *
  obtain ⟨s, ea, ec, rs, da, dc, ds⟩ := t
  simp only at hw0 HBx CO
  clear hll
  generalize rs.length = ne at *
  generalize ds.length = nd at *
  go_enter Tryd.func5, Tryd.ntmps5
  go_upto_region 1 with fail
  rw [← hw0.out]
  clear hw0
  have bx : ∀ W, Below w0'.heap.size w0' W → W.cell? ⟨w.heap.size, 0, none⟩ = some (.int .u64 (s : Int)) ∧ W.cell? ⟨w.heap.size, 1, none⟩ = some (.slice ea ne ec) ∧ W.cell? ⟨w.heap.size, 2, none⟩ = some (.slice da nd dc) := fun W hB => ⟨(HBx.out.below hB).cell 0, (HBx.out.below hB).cell 1, (HBx.out.below hB).cell 2⟩
  have HBX := Lib.hid bx
  clear bx HBx
  go_wp2_with fail
  refine (HC.out _ HB0.out).mono ?_; rintro e w1 ⟨ad1, cap1, rfl, hown1, hB1⟩
  have HS1 := Lib.hid hown1.sl
  have HD1 := Lib.hid hB1
  have HB1 := Lib.hid (HB0.out.trans (hB1.mono HB0.out.size))
  have C2 := Lib.hid (CC2.out w1 ad1 cap1 HS1.out)
  clear hown1 hB1 HC CC2
  go_wp2_with fail
  refine (C2.out).mono ?_; rintro e w2 ⟨ad2, cap2, rfl, hown2, hB2⟩
  have HS2 := Lib.hid hown2.sl
  have HS12 := Lib.hid (HS1.out.below hB2)
  have HD2 := Lib.hid (HD1.out.trans (hB2.mono HD1.out.size))
  have HB2 := Lib.hid (HB1.out.trans (hB2.mono HB1.out.size))
  obtain ⟨k0, k1, k2⟩ := HBX.out w2 HD2.out
  have C3 := Lib.hid (CO.out w2 HB2.out)
  clear hown2 hB2 HS1 HD1 HB1 C2 HBX HD2 CO HB0
  go_wp2_with fail
  refine (C3.out).mono ?_; rintro e w4 ⟨ad4, cap4, rfl, hr4, hB4⟩
  have HB4 := Lib.hid (HB2.out.trans (hB4.mono HB2.out.size))
  have HSa := Lib.hid (HS12.out.below hB4)
  have HSb := Lib.hid (HS2.out.below hB4)
  have C4 := Lib.hid (CR.out w4 ad1 cap1 ad4 cap4 HB4.out HSa.out hr4)
  clear hr4 hB4 HS12 HS2 HB2 C3 CR
  go_wp2_with fail
  refine (C4.out).mono ?_; rintro e w5 ⟨⟨ad5, cap5, rfl⟩, hB5⟩
  have HB5 := Lib.hid (HB4.out.trans (hB5.mono HB4.out.size))
  have C5 := Lib.hid (CS.out w5 ad1 cap1 ad2 cap2 (HSa.out.below hB5) (HSb.out.below hB5))
  clear hB5 HSa HSb HB4 C4 CS
  go_wp2_with fail
  refine (C5.out).mono ?_; rintro e w6 ⟨rfl, hB6⟩
  have HB6 := Lib.hid (HB5.out.trans (hB6.mono HB5.out.size))
  have C6 := Lib.hid (CW.out w6 HB6.out)
  clear hB6 HB5 C5 CW
  go_wp2_with fail
  refine (C6.out).mono ?_; rintro e w7 ⟨rfl, hB7⟩
  have HB7 := Lib.hid (HB6.out.trans (hB7.mono HB6.out.size))
  clear hB7
  go_wp2_with fail
  go_ret
  exact ⟨rfl, HB7.out⟩

set_option maxRecDepth 100000 in
theorem lifted (os : Os) (started : os.Started) (H : Type) (enc : TypeId × Value → H) :
    ReturnsInHanded {} Tryd.checked os 5 .any (fun w args => (Rows.mendKeepsSpec.pre enc Tryd.prog Tryd.f5 [] false w args ∧ laidMetH Tryd.prog Mnd.laidL w) ∧ sizedMet enc Tryd.prog Tryd.f5 (OpenSpec.ofChange Rows.mendKeepsSpec) false w args) (Rows.mendKeepsSpec.post enc Tryd.prog Tryd.f5 false true false false) := by
  refine returnsInHanded_of_change_and (C := Tryd.checked) (X := fun w _ => laidMetH Tryd.prog Mnd.laidL w) (fun _ _ _ hh h => h.of_heap hh) own started (by kernel_rfl) Tryd.func5
    (ChangeSpec.witness_shaped (enc := enc) (C := Tryd.checked) (os := os) (X := fun w _ => laidMetH Tryd.prog Mnd.laidL w) false (World.doorLaid Tryd.prog 14 os) #[.slice none 0 0, .int .i64 0, .agg #[.int .u64 0, .slice none 0 0, .slice none 0 0]] 8 rfl (World.shaped_of_RefB (by kernel_rfl) (by kernel_rfl)) (by kernel_rfl) (by kernel_rfl) (by kernel_rfl) (Mnd.door_met os _)) ?_
  intro W base args ds gs before hval0 hW _ _ hL _
  have hval : ∀ (j : Nat) t v, Tryd.f5.params[j]? = some t → args[j]? = some v → Value.okWide Tryd.prog W .any base t v := hval0
  have hW' := hW
  obtain ⟨p, q, hA0, hV, rfl, hfz, hnd⟩ := hW
  have hA : DataW.TrodAll enc Tryd.prog W 0 (fun _ => true) true Tryd.f5.params.toList args.toList ds p := hA0
  rw [Tryd.params5] at hA hval
  obtain ⟨v0, vs0, d0, ds0, p0, q0, hargs, rfl, rfl, h0, r0⟩ := trodAll_cons hA
  obtain ⟨v1, vs1, d1, ds1, p1, q1, rfl, rfl, rfl, h1, r1⟩ := trodAll_cons r0
  obtain ⟨v2, vs2, d2, ds2, p2, q2, rfl, rfl, rfl, h2, r2⟩ := trodAll_cons r1
  obtain ⟨rfl, rfl, rfl⟩ := trodAll_nil r2
  obtain rfl : args = #[v0, v1, v2] := by cases args; simp_all
  obtain ⟨rfl, rfl⟩ := trodVars_none hV
  obtain ⟨a0, len0, cap0, rfl⟩ := okWide_slice Tryd.underlying27 (hval 0 27 v0 rfl rfl)
  have k0 := h0
  have lt0 : ∀ x ∈ p0, x.block < W.heap.size := by obtain ⟨m, hm⟩ := k0; exact DataW.trod_lt m _ _ _ hm
  obtain ⟨z0, w0⟩ : ∃ zs, IsRow .i64 W a0 len0 cap0 zs := by
    obtain ⟨fuel, hf⟩ := h0
    rcases open_ints Tryd.underlying27 Tryd.underlying2 (by kernel_rfl) hf with ⟨hcs, _⟩ | ⟨x, l, c, zs, hcs, _, hl, hm, hz, _, hcell, hwz⟩
    · simp [Value.cells] at hcs
      obtain ⟨rfl, rfl, rfl⟩ := hcs
      exact ⟨[], .inl ⟨rfl, rfl, rfl, rfl⟩⟩
    · simp [Value.cells] at hcs
      obtain ⟨rfl, rfl, rfl⟩ := hcs
      exact ⟨zs, .inr ⟨_, rfl, hl, hm, by simpa using hz, hcell, hwz⟩⟩
  obtain ⟨a1, rfl, rfl, rfl, w1⟩ := open_int Tryd.underlying3 (hval 1 3 v1 rfl rfl) h1
  have k2 := h2
  have lt2 : ∀ x ∈ p2, x.block < W.heap.size := by obtain ⟨m, hm⟩ := k2; exact DataW.trod_lt m _ _ _ hm
  obtain ⟨a2, rfl, w2⟩ := Mnd.open_tu (hval 2 42 v2 rfl rfl) h2
  clear hA0 hval0
  have hT := Mnd.tabs_of_laid hL
  refine (walk a0 len0 cap0 z0 a1 a2 W w0 w1 w2 hT).mono fun e W' ⟨he, bel⟩ => ?_
  subst he
  exact ⟨_, rfl, _, _, _, [], _, [], hW', trodAll_mk1 (shut_bool Tryd.underlying4 _), (trodAll_cons_mk (Below.trod laidOut (by kernel_rfl) (of_decide_eq_true (by kernel_rfl)) k0 bel lt0) (trodAll_cons_mk (shut_int Tryd.underlying3 w1) (trodAll_cons_mk (Below.trod laidOut (by kernel_rfl) (of_decide_eq_true (by kernel_rfl)) k2 bel lt2) trodAll_mk0))), rfl, bel.frame _, fun h => by cases h⟩

theorem over : Rows.mendKeepsRow.holds Tryd.pinned (OpenSpec.ofChange Rows.mendKeepsSpec) :=
  OpenClaim.holds_of_wide 5 Tryd.f5 rfl rfl rfl rfl rfl rfl rfl ⟨rfl, rfl, rfl, rfl, rfl⟩ rfl rfl rfl rfl rfl (by kernel_rfl) Tryd.func5 (by kernel_rfl)
    (of_decide_eq_true (by kernel_rfl)) (by unfold Func.isWrapper; first | (rw [if_pos (by decide +kernel)]; kernel_rfl) | (rw [if_neg (by decide +kernel)]; exact ⟨rfl, rfl⟩))
    (fun os started H enc _ => lifted os started H enc)

theorem func_is {f : FuncId} (h : Tryd.prog.funcNamed Rows.mendKeepsRow.func = some f) : f = 5 :=
  Option.some.inj (h.symm.trans (show Tryd.prog.funcNamed Rows.mendKeepsRow.func = some 5 by kernel_rfl))
theorem proved : Rows.MendKeepsCardSaid :=
  Claim7.holds_tied_plain_at .later [] Rows.mendKeepsCard.laidKinds true Rows.mendKeepsCard.stood.harness false
    over (fun _ h => by cases h) (by kernel_rfl) (fun _ h => by cases h) mendKeeps_row_tie rfl ⟨rfl, rfl⟩ (by kernel_rfl) rfl
    (fun f fn hf hfn => by
      obtain rfl := func_is hf
      obtain rfl : fn = Tryd.f5 := (Option.some.inj (Tryd.func5.symm.trans hfn)).symm
      exact ⟨by kernel_rfl, fun j t ht => by
        rw [Tryd.params5] at ht
        have hm : t ∈ [27, 3, 42] := by simpa using Array.mem_of_getElem? ht
        have hall : ([27, 3, 42].all fun u => !Tryd.prog.wantsStandIn u) = true := by kernel_rfl
        exact (show Tryd.prog.wantsStandIn t = false by simpa using List.all_eq_true.1 hall t hm)⟩)
    (by kernel_rfl)
#print axioms proved
end Go.Proofs.YtkcjllkhmncfdaaDoor.lawMendKeeps
