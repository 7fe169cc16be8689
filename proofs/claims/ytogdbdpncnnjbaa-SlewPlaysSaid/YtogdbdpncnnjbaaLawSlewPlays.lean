/- Whatever calls are made, a correction of any width makes and leaves what the document says. -/
import Derived.Test.YtogdbdpncnnjbaaRows
import Derived.WalkKit
import Derived.ProofKit
import Derived.OpenShut
import Derived.ShutString
import Derived.ChangeOld
import Derived.Below
import Derived.Test.YtogdbdpncnnjbaaSlwC
import Derived.Test.YtogdbdpncnnjbaaSlwV
import Derived.Deep.CutRange
import Derived.Deep.RegionHeldLaw
import Derived.Deep.RegionHeld3
namespace Go.Proofs.Ytogdbdpncnnjbaa.lawSlewPlays
open Go.ChangeShapes Go.WideShapes Go.ChangeAt Go.RowKit
open Go.ChangeMaps (open_string shut_string)
set_option linter.unusedVariables false

theorem own : ownKnob Try.prog.godebug = none := by kernel_rfl
theorem laidOut : laidOutB Try.prog = true := by kernel_rfl

/-! The walk: the Go text returns true and writes nothing that was there. -/
set_option linter.unusedSimpArgs false in
set_option maxRecDepth 100000 in
set_option maxHeartbeats 4000000 in
theorem walk (a0 : Int) (a1 : Option Addr) (len1 cap1 : Nat) (z1 : List Slw.Ac) (w : World) (w0 : (Lit.int .i64 a0).wf = true) (w1 : Slw.Acts w w.heap.size a1 len1 cap1 z1) :
    Calls Try.prog 3 #[.int .i64 a0, .slice a1 len1 cap1] w fun e w' => e = .returned (.bool true) ∧ Below w.heap.size w w' := by
  have hlen := w1.len_
  have hl1 := w1.le
  have hl2 := w1.max
  have HLA : Hid (∀ k, k < len1 → ∃ b off, a1 = some ⟨b, off, none⟩ ∧ ∀ W, Below w.heap.size w W → W.cell? ⟨b, off + k * 2, none⟩ = some (.bool (z1.getD k default).1) ∧ W.cell? ⟨b, off + k * 2 + 1, none⟩ = some (.int .i64 (z1.getD k default).2)) := Lib.hid (fun k hk => by
    obtain ⟨b, off, e1, hb, hc⟩ := w1.rd.at_ (i := k) (by omega)
    exact ⟨b, off, e1, fun W hB => Slw.at21 (hc.below hB hb)⟩)
  clear w0 w1 hlen
  have C9 := Lib.hid (fun W => Slw.works21_any W)
  have CN := Lib.hid (Slw.hnew_any a0 (Below.refl w.heap.size w))
  have CR := Lib.hid (fun W => Slw.rsnew_any a0 W)
  obtain ⟨s0, s1⟩ := Slw.sg_bd a0
  obtain ⟨v, hv⟩ : ∃ v, Hid (Slw.sgV a0 = v) := ⟨_, Lib.hid rfl⟩
  have CR2 := CR.out
  rw [hv.out] at s0 s1 CR2
  clear CR
  have CR := Lib.hid CR2
  clear CR2
  obtain ⟨g, hg⟩ : ∃ g, Hid (w.heap.size = g) := ⟨_, Lib.hid rfl⟩
  have CN2 := CN.out
  rw [hg.out] at CN2
  clear CN
  have CN := Lib.hid CN2
  clear CN2
  unfold Slw.rsV at CR
  go_enter Try.func3, Try.ntmps3
  go_wp2_with fail
  refine (CN.out).mono ?_; rintro x w3 ⟨rfl, hZ⟩
  have HZ := Lib.hid hZ
  clear hZ CN
  go_wp2_with fail
  refine (CR.out _).mono ?_; rintro x w4 ⟨rfl, hB⟩
  have HT := Lib.hid (Slw.Two.begin (HZ.out.on hB) hv.out 0)
  clear HZ hB CR
  obtain ⟨e, he⟩ : ∃ e, Hid (w4.heap.size = e) := ⟨_, Lib.hid rfl⟩
  go_wp2_with fail
  generalize (w4.alloc (.cells #[.int .i64 0, .int .i64 v] 26)) = w5 at *
  rw [he.out] at HT ⊢
  clear he
  go_loopw [7] (fun i wr => ∃ (k : Nat) (l : Int), k ≤ len1 ∧ k ≤ 60 ∧ i = .int .i64 k ∧ Hid (Slw.Two w wr g e a0 v l l)) (fun i _ => 60 - (intOf i).toNat)
  case atStart => exact ⟨0, 0, by omega, by omega, rfl, HT⟩
  case round =>
    clear HT
    obtain ⟨k, l, hk1, hk2, rfl, HB⟩ := hrel
    by_cases hlt : k < len1 ∧ k < 60
    · obtain ⟨hlt1, hlt2⟩ := hlt
      obtain ⟨b, off, rfl, hcl⟩ := HLA.out k hlt1
      have HCL := Lib.hid hcl
      generalize z1.getD k default = z at *
      obtain ⟨st, x⟩ := z
      clear hcl
      simp only at HCL
      have HC1 : Hid (∀ W, Below wr.heap.size wr W → W.cell? ⟨b, off + k * 2, none⟩ = some (.bool st) ∧ W.cell? ⟨b, off + k * 2 + 1, none⟩ = some (.int .i64 x) ∧ W.cell? ⟨e, 0, none⟩ = some (.int .i64 l) ∧ W.cell? ⟨e, 1, none⟩ = some (.int .i64 v)) := Lib.hid (fun W hB => by
        have h := (HB.out.on hB)
        exact ⟨(HCL.out W h.has.bel).1, (HCL.out W h.has.bel).2, (h.box.cell 0), (h.box.cell 1)⟩)
      obtain ⟨c0, c1, c2, c3⟩ := HC1.out wr (Below.refl _ _)
      have b0 := HB.out.has.lo
      have b1 := HB.out.has.hi
      go_upto_if 28 with fail
      go_cut [] from 14 to 74 (fun W => ∃ l2, Hid (Slw.Two w W g e a0 v l2 l2))
      case first =>
        cases st with
        | true =>
          have CR := Lib.hid (fun W => Slw.rsstep_any l v x s0 s1 b0 b1 W)
          have CS := Lib.hid (fun W (h : Slw.Two w W g e a0 v l (l - Slw.smV v l (Slw.siV x))) => Slw.tstep_any x h)
          obtain ⟨i0, i1⟩ := Slw.si_bd x
          obtain ⟨m0, m1, -⟩ := Slw.sm_bd (l := l) s0 i0
          unfold Slw.rsV at CR
          generalize Slw.siV x = j at *
          generalize Slw.smV v l j = d at *
          generalize l - d = r at *
          obtain ⟨ad, had⟩ : ∃ y, j + d = y := ⟨_, rfl⟩
          rw [had] at CR CS
          clear had m0 m1 i0 i1
          have e1 : (ad != ad) = false := bne_self_eq_false _
          go_upto_region 6 with fail
          go_cut [8, 9] from 14 to 74 (fun p y W => ∃ nb, p = .pointer (some ⟨nb, 0, none⟩) ∧ y = .int .i64 ad ∧ Hid (Slw.Two w W g e a0 v l l ∧ Rw.Blk W nb 26 #[.int .i64 r, .int .i64 v]))
          case first =>
            have HS : Hid (∀ W, Below wr.drew.heap.size wr.drew W → W.cell? ⟨b, off + k * 2 + 1, none⟩ = some (.int .i64 x) ∧ W.cell? ⟨e, 0, none⟩ = some (.int .i64 l) ∧ W.cell? ⟨e, 1, none⟩ = some (.int .i64 v)) := Lib.hid (fun W hW => (HC1.out W (((Below.refl wr.heap.size wr).drew).trans (hW.mono (Nat.le_refl _)))).2)
            have HA1 : Hid (∀ W, Below (wr.alloc (Obj.cells #[.int .i64 0, .int .i64 0] 26)).drew.heap.size (wr.alloc (Obj.cells #[.int .i64 0, .int .i64 0] 26)).drew W → Below wr.drew.heap.size wr.drew W) := Lib.hid (fun W h => ((((Below.refl wr.drew.heap.size wr.drew).alloc (Nat.le_refl _) _).trans (h.mono (by simp)))))
            have HE2 : Hid (∀ W, Below (wr.alloc (Obj.cells #[.int .i64 0, .int .i64 0] 26)).drew.heap.size (wr.alloc (Obj.cells #[.int .i64 0, .int .i64 0] 26)).drew W → Below wr.drew.heap.size wr.drew ((W.setCell ⟨wr.heap.size, 0, none⟩ (.int .i64 r)).setCell ⟨wr.heap.size, 1, none⟩ (.int .i64 v)) ∧ Slw.Two w ((W.setCell ⟨wr.heap.size, 0, none⟩ (.int .i64 r)).setCell ⟨wr.heap.size, 1, none⟩ (.int .i64 v)) g e a0 v l l ∧
                Rw.Blk ((W.setCell ⟨wr.heap.size, 0, none⟩ (.int .i64 r)).setCell ⟨wr.heap.size, 1, none⟩ (.int .i64 v)) wr.heap.size 26 #[.int .i64 r, .int .i64 v]) := Lib.hid (fun W h => by
              have K : Rw.Blk W wr.heap.size 26 #[.int .i64 0, .int .i64 0] := Rw.Blk.below (w := (wr.alloc (Obj.cells #[.int .i64 0, .int .i64 0] 26)).drew) (Rw.Blk.new wr _ _) h
              have h1 : Below wr.drew.heap.size wr.drew ((W.setCell ⟨wr.heap.size, 0, none⟩ (.int .i64 r)).setCell ⟨wr.heap.size, 1, none⟩ (.int .i64 v)) := ((HA1.out W h).setCell (Nat.le_refl _) _).setCell (Nat.le_refl _) _
              exact ⟨h1, (HB.out.on (Below.refl _ _).drew).on h1, (K.put 0 _).put 1 _⟩)
            have HE1 : Hid (∀ W, Below wr.drew.heap.size wr.drew W → Slw.Two w (W.alloc (Obj.cells #[.int .i64 r, .int .i64 v] 26)) g e a0 v l l ∧ Rw.Blk (W.alloc (Obj.cells #[.int .i64 r, .int .i64 v] 26)) W.heap.size 26 #[.int .i64 r, .int .i64 v]) := Lib.hid (fun W h =>
              ⟨((HB.out.on (Below.refl _ _).drew).on h).on ((Below.refl _ _).alloc (Nat.le_refl _) _), Rw.Blk.new _ _ _⟩)
            refine wp_region_noPanic ?_
            go_region_held_law (fun W => W.cell? ⟨b, off + k * 2 + 1, none⟩ = some (.int .i64 x) ∧ W.cell? ⟨e, 0, none⟩ = some (.int .i64 l) ∧ W.cell? ⟨e, 1, none⟩ = some (.int .i64 v)) ((refine HS.out _ ?_; (first | exact Below.refl _ _ | assumption | exact ((Below.refl _ _).alloc (Nat.le_refl _) _) | exact ((Below.refl _ _).alloc (Nat.le_refl _) _).drew | exact Below.alloc (by assumption) (Below.size (by assumption)) _ | exact HA1.out _ (by assumption) | exact (HE2.out _ (by assumption)).1)))
              (first | (go_at_call 9; (with_reducible refine (CR.out _).mono ?_); rintro q W ⟨rfl, hBW⟩; try (have K : Rw.Blk W wr.heap.size 26 #[.int .i64 0, .int .i64 0] := Rw.Blk.below (w := (wr.alloc (Obj.cells #[.int .i64 0, .int .i64 0] 26)).drew) (Rw.Blk.new wr _ _) hBW; have k0 := K.cell 0; have k1 := K.cell 1; have g0 := K.free 0; have g1 := K.free 1; simp only [List.getElem?_toArray, List.getElem?_cons_succ, List.getElem?_cons_zero] at k0 k1)))
            all_goals
              refine NoPanic.normal ?_
              go_wp2_with fail
              go_meet
              case rel => first | exact ⟨_, rfl, rfl, Lib.hid (HE1.out _ hBW)⟩ | exact ⟨_, rfl, rfl, Lib.hid (HE2.out _ hBW).2⟩
          case rest =>
            obtain ⟨nb, rfl, rfl, HR⟩ := hcut
            clear CR HB HC1 c0 c1 c2 c3
            have p0 := HR.out.2.cell 0
            have p1 := HR.out.2.cell 1
            have p2 : wc.cell? ⟨e, 0, none⟩ = some (.int .i64 l) := HR.out.1.box.cell 0
            have p3 : wc.cell? ⟨e, 1, none⟩ = some (.int .i64 v) := HR.out.1.box.cell 1
            have p4 : wc.frozen? ⟨e, 0, none⟩ = false := HR.out.1.box.free 0
            have p5 : wc.frozen? ⟨e, 1, none⟩ = false := HR.out.1.box.free 1
            have HP : Hid (Slw.Two w ((wc.setCell ⟨e, 0, none⟩ (.int .i64 r)).setCell ⟨e, 1, none⟩ (.int .i64 v)) g e a0 v l r) := Lib.hid (HR.out.1.put r)
            have p6 := (HCL.out _ HP.out.has.bel).2
            simp only [List.getElem?_toArray, List.getElem?_cons_succ, List.getElem?_cons_zero] at p0 p1
            have CS2 := Lib.hid (CS.out _ HP.out)
            clear CS HR HP
            go_wp2_with fail
            refine (CS2.out).mono ?_; rintro q w8 ⟨rfl, hZ⟩
            have HZ := Lib.hid hZ
            clear hZ CS2
            go_wp2_with fail
            go_meet
            case rel => exact ⟨r, HZ⟩
        | false =>
          have CA := Lib.hid (Slw.taim_any x HB.out)
          have CR := Lib.hid (fun W => Slw.rsaim_any l v x W)
          unfold Slw.rsV at CR
          generalize Slw.saV x = y at *
          have HK : Hid (∀ W2 W, Slw.Two w W2 g e a0 v y l → Below W2.drew.heap.size W2.drew W → Slw.Two w ((W.setCell ⟨e, 0, none⟩ (.int .i64 y)).setCell ⟨e, 1, none⟩ (.int .i64 v)) g e a0 v y y) := Lib.hid (fun W2 W h hB => ((h.on (Below.refl _ _).drew).on hB).put y)
          go_wp2_with fail
          refine (CA.out).mono ?_; rintro q w6 ⟨rfl, hZ⟩
          have HZ := Lib.hid hZ
          clear hZ CA c2 c3
          have c4 := HZ.out.has.bel
          obtain ⟨-, c1⟩ := HCL.out w6 c4
          have c2 : w6.cell? ⟨e, 0, none⟩ = some (.int .i64 l) := HZ.out.box.cell 0
          have c3 : w6.cell? ⟨e, 1, none⟩ = some (.int .i64 v) := HZ.out.box.cell 1
          clear c4
          have f2 : w6.frozen? ⟨e, 0, none⟩ = false := HZ.out.box.free 0
          have f3 : w6.frozen? ⟨e, 1, none⟩ = false := HZ.out.box.free 1
          have HF : Hid (∀ W, Below w6.drew.heap.size w6.drew W → W.cell? ⟨e, 0, none⟩ = some (.int .i64 l) ∧ W.cell? ⟨e, 1, none⟩ = some (.int .i64 v) ∧ W.frozen? ⟨e, 0, none⟩ = false ∧ W.frozen? ⟨e, 1, none⟩ = false) := Lib.hid (fun W hB => by
            have h := ((HZ.out.on (Below.refl _ _).drew).on hB).box
            exact ⟨h.cell 0, h.cell 1, h.free 0, h.free 1⟩)
          go_upto_region 11 with fail
          go_region_with (go_at_call 12; refine (CR.out _).mono ?_; rintro q W ⟨rfl, hBW⟩; obtain ⟨c2', c3', f2', f3'⟩ := HF.out W hBW)
          all_goals
            try simp only [Act.put, List.getElem_toArray, List.getElem_cons_succ, List.getElem_cons_zero, List.setIfInBounds_toArray, List.set_cons_zero, List.set_cons_succ]
            go_wp2_with fail
            go_meet
            case rel => exact ⟨y, HK.out _ _ HZ.out hBW⟩
      case rest =>
        obtain ⟨l2, HX⟩ := hcut
        obtain ⟨w7, rfl⟩ : ∃ z, z = wc := ⟨_, rfl⟩
        clear HC1 c0 c1 c2 c3 HB HCL
        have b2 := HX.out.has.lo
        have b3 := HX.out.has.hi
        have CL := Lib.hid (Slw.tleft_any HX.out)
        have CT := Lib.hid (fun W (h : Slw.Two w W g e a0 v l2 l2) => Slw.tticks_any h)
        have CR := Lib.hid (fun W => Slw.rsticks_any l2 v s0 s1 b2 b3 W)
        unfold Slw.rsV at CR
        generalize Slw.stV v l2 = t at *
        have e1 : (t != t) = false := bne_self_eq_false _
        have e2 : (l2 != l2) = false := bne_self_eq_false _
        have HT : Hid (∀ W, Below w7.drew.heap.size w7.drew W → Slw.Two w W g e a0 v l2 l2) := Lib.hid (fun W h => (HX.out.on (Below.refl _ _).drew).on h)
        have HTr : Hid (∀ W W2, Below w7.drew.heap.size w7.drew W → Below W.heap.size W W2 → Below w7.drew.heap.size w7.drew W2) := Lib.hid (fun W W2 h h2 => h.trans (h2.mono h.size))
        have HC : Hid (∀ W, Below w7.drew.heap.size w7.drew W → W.cell? ⟨e, 0, none⟩ = some (.int .i64 l2) ∧ W.cell? ⟨e, 1, none⟩ = some (.int .i64 v)) := Lib.hid (fun W h => ⟨(HT.out W h).box.cell 0, (HT.out W h).box.cell 1⟩)
        have HL : Hid (∀ W, Below w7.drew.heap.size w7.drew W → Calls Try.prog 13 #[.pointer (some ⟨g, 0, none⟩)] W fun x w' => x = .returned (.int .i64 l2) ∧ W = w') := Lib.hid (fun W h => Slw.tleft_any (HT.out W h))
        have HT2 : Hid (∀ W, Below w7.drew.heap.size w7.drew W → Calls Try.prog 14 #[.pointer (some ⟨g, 0, none⟩)] W fun x w' => x = .returned (.int .i64 t) ∧ Below w7.drew.heap.size w7.drew w') := Lib.hid (fun W h => (CT.out W (HT.out W h)).mono fun x w' ⟨h1, h2⟩ => ⟨h1, HTr.out W w' h h2⟩)
        have HR2 : Hid (∀ W, Below w7.drew.heap.size w7.drew W → Calls Try.prog 15 #[.agg #[.int .i64 l2, .int .i64 v]] W fun x w' => x = .returned (.int .i64 t) ∧ Below w7.drew.heap.size w7.drew w') := Lib.hid (fun W h => (CR.out W).mono fun x w' ⟨h1, h2⟩ => ⟨h1, HTr.out W w' h h2⟩)
        clear CL CT CR
        go_upto_region 12 with fail
        refine wp_region_noPanic ?_
        go_region_held_law (fun W => W.cell? ⟨e, 0, none⟩ = some (.int .i64 l2) ∧ W.cell? ⟨e, 1, none⟩ = some (.int .i64 v)) ((refine HC.out _ ?_; (first | exact Below.refl _ _ | assumption)))
          (first
          | (go_at_call 13; (with_reducible refine (HL.out _ ?_).mono ?_); (focus (first | assumption | exact Below.refl _ _)); rintro q W ⟨rfl, rfl⟩)
          | (go_at_call 14; (with_reducible refine (HT2.out _ ?_).mono ?_); (focus (first | assumption | exact Below.refl _ _)); rintro q W ⟨rfl, hB1⟩)
          | (go_at_call 15; (with_reducible refine (HR2.out _ ?_).mono ?_); (focus (first | assumption | exact Below.refl _ _)); rintro q W ⟨rfl, hB2⟩))
        have HZ := Lib.hid (HT.out _ hB2)
        clear HT HTr HC HL HT2 HR2 HX hB1 hB2
        refine NoPanic.normal ?_
        go_wp2_with fail
        go_roundw
        case rel => exact ⟨k + 1, l2, by omega, by omega, by go_num, HZ⟩
        case measure => simp [intOf]; omega
    · have HF := Lib.hid HB.out.has.bel
      clear HB
      have HE : Hid (∀ W, Below wr.heap.size wr W → Below w.heap.size w W) := Lib.hid (fun W h => HF.out.trans (h.mono HF.out.size))
      by_cases hl : k < len1
      · have e1 : decide ((k : Int) < 60) = false := decide_eq_false (by omega)
        clear hlt
        go_wp2_with fail
        refine (C9.out _).mono ?_; rintro e w' ⟨rfl, hB⟩
        go_wp2_with fail
        go_ret
        exact ⟨rfl, HE.out _ hB⟩
      · clear hlt
        go_wp2_with fail
        refine (C9.out _).mono ?_; rintro e w' ⟨rfl, hB⟩
        go_wp2_with fail
        go_ret
        exact ⟨rfl, HE.out _ hB⟩

set_option maxRecDepth 100000 in
theorem lifted (os : Os) (started : os.Started) (H : Type) (enc : TypeId × Value → H) :
    ReturnsInHanded {} Try.checked os 3 .any (Rows.slewPlaysSpec.pre6 enc Try.prog Try.f3 Rows.slewPlaysRow.domain false) (Rows.slewPlaysSpec.post enc Try.prog Try.f3 false true false false) := by
  refine returnsInHanded_of_change (C := Try.checked) own started (by kernel_rfl) Try.func3
    (ChangeSpec.witness6 (enc := enc) (C := Try.checked) false ⟨#[], #[.int .i64 0, .slice none 0 0], []⟩ 8 (by kernel_rfl) (by kernel_rfl) (by kernel_rfl) (by kernel_rfl)) ?_
  intro W base args ds gs before hval0 hW hcnd _
  have hval : ∀ (j : Nat) t v, Try.f3.params[j]? = some t → args[j]? = some v → Value.okWide Try.prog W .any base t v := hval0
  have hW' := hW
  obtain ⟨p, q, hA0, hV, rfl, hfz, hnd⟩ := hW
  have hA : DataW.TrodAll enc Try.prog W 0 (fun _ => true) true Try.f3.params.toList args.toList ds p := hA0
  rw [Try.params3] at hA hval
  obtain ⟨v0, vs0, d0, ds0, p0, q0, hargs, rfl, rfl, h0, r0⟩ := trodAll_cons hA
  obtain ⟨v1, vs1, d1, ds1, p1, q1, rfl, rfl, rfl, h1, r1⟩ := trodAll_cons r0
  obtain ⟨rfl, rfl, rfl⟩ := trodAll_nil r1
  obtain rfl : args = #[v0, v1] := by cases args; simp_all
  obtain ⟨rfl, rfl⟩ := trodVars_none hV
  obtain ⟨a0, rfl, rfl, rfl, w0⟩ := open_int Try.underlying2 (hval 0 2 v0 rfl rfl) h0
  obtain ⟨a1, len1, cap1, rfl⟩ := okWide_slice Try.underlying22 (hval 1 22 v1 rfl rfl)
  have k1 := h1
  have lt1 : ∀ x ∈ p1, x.block < W.heap.size := by obtain ⟨m, hm⟩ := k1; exact DataW.trod_lt m _ _ _ hm
  obtain ⟨z1, w1⟩ : ∃ zs, Slw.Acts W W.heap.size a1 len1 cap1 zs := by
    obtain ⟨fuel, hf⟩ := h1
    exact Slw.open_acts rfl (by simpa [Value.cells] using hf)
  clear hA0 hval0
  refine (walk a0 a1 len1 cap1 z1 W w0 w1).mono fun e W' ⟨he, bel⟩ => ?_
  subst he
  exact ⟨_, rfl, _, _, _, [], _, [], hW', trodAll_mk1 (shut_bool Try.underlying4 _), (trodAll_cons_mk (shut_int Try.underlying2 w0) (trodAll_cons_mk (Below.trod laidOut (by kernel_rfl) (of_decide_eq_true (by kernel_rfl)) k1 bel lt1) trodAll_mk0)), rfl, bel.frame _, fun h => by cases h⟩

theorem over : Rows.slewPlaysRow.holds Try.pinned (OpenSpec.ofChange Rows.slewPlaysSpec) :=
  OpenClaim.holds_of_wide 3 Try.f3 rfl rfl rfl rfl rfl rfl rfl ⟨rfl, rfl, rfl, rfl, rfl⟩ rfl rfl rfl rfl rfl (by kernel_rfl) Try.func3 (by kernel_rfl)
    (of_decide_eq_true (by kernel_rfl)) (by unfold Func.isWrapper; first | (rw [if_pos (by decide +kernel)]; kernel_rfl) | (rw [if_neg (by decide +kernel)]; exact ⟨rfl, rfl⟩))
    (fun os started H enc _ => lifted os started H enc)

theorem proved : Rows.SlewPlaysSaid := over
#print axioms proved
end Go.Proofs.Ytogdbdpncnnjbaa.lawSlewPlays
