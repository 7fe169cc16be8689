/- A node of any graph is as far from another one as that one is from it, and a link makes them no further apart from a third one than by one more. -/
import Derived.Test.YtcfdnbdemiokeaaDoorRows
import Derived.Test.YtcfdnbdemiokeaaDoorTie
import Derived.Test.YtcfdnbdemiokeaaDoorCards
import Derived.SevenTiedAt
import Derived.LaidMore
import Derived.Stop.Joined
import Derived.WalkKit
import Derived.ProofKit
import Derived.OpenShut
import Derived.ShutString
import Derived.ChangeOld
import Derived.Below
import Derived.Test.YtcfdnbdemiokeaaDoorReaL
namespace Go.Proofs.YtcfdnbdemiokeaaDoor.lawReachBoth
open Go.ChangeShapes Go.WideShapes Go.ChangeAt Go.RowKit
open Go.ChangeMaps (open_string shut_string)
set_option linter.unusedVariables false

theorem own : ownKnob Tryd.prog.godebug = none := by kernel_rfl
theorem laidOut : laidOutB Tryd.prog = true := by kernel_rfl

/-! The walk: the Go text returns true and writes nothing that was there. -/
set_option linter.unusedSimpArgs false in
set_option maxRecDepth 100000 in
set_option maxHeartbeats 8000000 in
theorem walk (a0 : Rea.Wd) (a1 : Int) (w : World) (w0 : Rea.OkW w a0) (w1 : (Lit.int .u64 a1).wf = true) (hT : Nodes.Tabs w) :
    Calls Tryd.prog 6 #[Rea.wval a0, .int .u64 a1] w fun e w' => e = .returned (.bool true) ∧ Below w.heap.size w w' := by
  obtain ⟨l1, u1⟩ := bounds_u64 w1
  obtain ⟨S, rfl⟩ := Int.eq_ofNat_of_zero_le l1
  have hS : S < 18446744073709551616 := by omega
  have HS := Lib.hid hS
  obtain ⟨n, L, HN, HOK, HLL, CM⟩ := Rea.mk_any a0 w w0
  have HT := Lib.hid hT
  obtain ⟨hn1, hn10⟩ := HN.out
  have hn64 : n ≤ 64 := by omega
  have hll := HLL.out
  clear hT w0
  unfold Rea.wval at *
  unfold Rea.MadePost at CM
  go_enter Tryd.func6, Tryd.ntmps6
  go_wp2_with fail
  refine (CM.out _ ((Below.refl _ _).alloc (Nat.le_refl _) _)).mono ?_; rintro e w2 ⟨g, b, ad, cap, rfl, hG, hR, hB2⟩
  have hB02 : Below w.heap.size w w2 := ((Below.refl _ _).alloc (Nat.le_refl _) (.cells #[.int .i64 a0.num, .slice a0.ad a0.len a0.cap] 24)).trans (hB2.mono (by simp))
  unfold Grf.gval
  obtain ⟨w3, hw3⟩ : ∃ w3, Hid (w3 = w2.alloc (.cells #[.int .i64 (n : Int), .slice ad L.length cap] 27)) := ⟨_, Lib.hid rfl⟩
  obtain ⟨hB3, hs3, hb3⟩ := Grf.gbox w2 w3 (n : Int) _ hw3.out
  have HB := Lib.hid (hB02.trans (hB3.mono hB02.size))
  have HX : Hid (∀ W, Below w3.heap.size w3 W → Rea.GP W (some ⟨g, 0, none⟩) n L ∧ Grf.RdG W ad L ∧ Nodes.Tabs W ∧ Below w.heap.size w W ∧ W.cell? ⟨w2.heap.size, 0, none⟩ = some (.int .i64 (n : Int)) ∧ W.cell? ⟨w2.heap.size, 1, none⟩ = some (.slice ad L.length cap)) := Lib.hid (fun W hW =>
    have hBW := HB.out.trans (hW.mono HB.out.size)
    ⟨.inr ⟨g, b, rfl, (hG.below hB3).below hW⟩, (hR.below hB3).below hW, HT.out.below hBW, hBW, (hb3.below hW).cell 0, (hb3.below hW).cell 1⟩)
  obtain ⟨-, -, -, -, c0, c1⟩ := HX.out w3 (Below.refl _ _)
  clear hG hR hB2 hB02 hB3 hs3 hb3 CM
  go_upto_region 2 with fail
  rw [← hw3.out]
  clear hw3
  obtain ⟨i0, hi, hz0, hz1, hz2⟩ := info_parts Rea.infoRow
  have CP := Lib.hid (fun (i : Nat) (hi : i < 64) W hW => Rea.dist_any (some ⟨g, 0, none⟩) n L (i : Int) S hS W (HX.out W hW).1 (HX.out W hW).2.2.1)
  have CH := Lib.hid (fun (x : Nat) W => Nodes.rhas_any S hS (x : Int) W)
  simp only [Nodes.has_nat S _ hS] at CH
  have CW := Lib.hid (fun W hW => Rea.works17_any W (HX.out W hW).2.2.1)
  have HF := Lib.hid (fun W hW => (HX.out W hW).2.2.2.1)
  have HC := Lib.hid (fun W hW => (HX.out W hW).2.2.2.2)
  have HRL := Lib.hid (fun W hW => (HX.out W hW).2.1)
  have HDL := Lib.hid (fun i => Rea.dst_len (n := n) (S := S) (L := L) (i := i))
  have HD0 := Lib.hid (Rea.DD.start (n := n) (S := S) (L := L) w3)
  have HB0 : Hid (Below w3.heap.size w3 (w3.alloc (.cells #[] 30))) := Lib.hid ((Below.refl _ _).alloc (Nat.le_refl _) _)
  unfold Nodes.ListPost at CP
  clear HX c0 c1
  go_wp2_with fail
  go_loopw [8, 9] (fun v iv wr => ∃ (k : Nat) (rows : List (Nat × Nat)), k ≤ n ∧ iv = .int .i64 k ∧ Hid (Rea.DD w3.heap.size n S L k v rows wr) ∧ Hid (Below w3.heap.size w3 wr)) (fun _ iv _ => n - (intOf iv).toNat)
  case atStart => exact ⟨0, [], Nat.zero_le _, rfl, HD0, HB0⟩
  case round =>
    clear HD0 HB0
    obtain ⟨k, rows, hk, rfl, HD, HBr⟩ := hrel
    obtain ⟨c0, c1⟩ := HC.out wr HBr.out
    by_cases hlt : k < n
    · have hk64 : k < 64 := by omega
      have CPK := Lib.hid (CP.out k hk64 wr HBr.out)
      rw [HDL.out, Rea.src_nat hk64] at CPK
      go_wp2_with fail
      refine (CPK.out).mono ?_; rintro e w4 ⟨ad4, cap4, rfl, hown4, hB4⟩
      have hD4 := HD.out.below hB4
      have hB34 := HBr.out.trans (hB4.mono HBr.out.size)
      obtain ⟨hcp, -, hgp⟩ := hown4.pos
      rw [HDL.out] at hcp
      obtain ⟨g4, rfl, -, -⟩ := hgp (by omega)
      have hnew : w4.ownsRow w3.heap.size 3 1 (.slice (some ⟨g4, 0, none⟩) n cap4) n ((Rea.dstL n S L k).map (Value.int .i64)) := by
        unfold Nodes.OwnL at hown4
        rw [HDL.out] at hown4
        exact Own.mono hown4 HBr.out.size
      have hsz := hB34.size
      have hown := hD4.own
      clear hown4 hB4 hcp hgp CPK HD c0 c1
      go_wp2_with (at_builtin; refine Own.wpList_append2 _ rfl _ _ 45 rfl w3.heap.size 30 i0 (.slice none 0 0) 1 24 Tryd.underlying45 hi hz0 hz1 hz2 rfl (by decide) _ _ _ rfl (World.ownsRow.alloc hown _) ⟨w4.heap.size, 0, none⟩ 1 1 [.slice (some ⟨g4, 0, none⟩) n cap4] rfl rfl (cell_one_new _ _ _) (by simp [Value.oneCell']) (by unfold maxLen; omega) (by omega) (by simp; omega) ?_; intro v' w5 hown' hgrow _ _)
      have HD5 := Lib.hid (hD4.app hnew hown' hgrow)
      have HB5 := Lib.hid (hB34.trans (Own.below_append hown hsz hgrow))
      obtain ⟨gd, cd, b5, c5, rfl, d5, -⟩ := HD5.out.row (Nat.lt_succ_self k)
      obtain ⟨c0, c1⟩ := HC.out w5 HB5.out
      have htn : ((n : Int) != (n : Int)) = false := by simp
      clear hown' hgrow hD4 hnew hown hB34
      go_wp2_with fail
      go_quiet (fail)
      have HD6 := Lib.hid (HD5.out.below (Own.below_drewN (Below.refl _ _) nq))
      have HB6 := Lib.hid (Own.below_drewN HB5.out nq)
      clear HD5 HB5 c0 c1 d5
      go_wp2_with fail
      go_roundw
      case rel => exact ⟨k + 1, _, by omega, by go_num, HD6, HB6⟩
      case measure => simp [intOf]; omega
    · obtain rfl : n = k := by omega
      obtain ⟨gd, cd, b5, c5, rfl, -, -⟩ := HD.out.row (show 0 < n by omega)
      have HRW : Hid (∀ W, Below wr.heap.size wr W → ∀ i, i < n → ∃ b c, W.cell? ⟨gd, i, none⟩ = some (.slice (some ⟨b, 0, none⟩) n c) ∧ ∀ x, x < n → W.cell? ⟨b, x, none⟩ = some (.int .i64 (Rea.dst n S L i x))) := Lib.hid (fun W hW i hi => by
        obtain ⟨gd', cd', b, c, e, h1, h2⟩ := (HD.out.below hW).row hi
        cases e
        exact ⟨b, c, h1, h2⟩)
      have HBX := Lib.hid (fun W (hW : Below wr.heap.size wr W) => HBr.out.trans (hW.mono HBr.out.size))
      clear HD CP
      generalize wr = wd at *
      go_wp2_with fail
      go_loopw [46] (fun iv W => ∃ i : Nat, i ≤ n ∧ iv = .int .i64 i ∧ Hid (Below wd.heap.size wd W)) (fun iv _ => n - (intOf iv).toNat)
      case atStart => exact ⟨0, Nat.zero_le _, rfl, Lib.hid (Below.refl _ _)⟩
      case round =>
        clear c0 c1
        obtain ⟨i, hin, rfl, HBi⟩ := hrel
        by_cases hilt : i < n
        · go_wp2_with fail
          go_loopw [51] (fun kv W => ∃ k : Nat, k ≤ n ∧ kv = .int .i64 k ∧ Hid (Below wd.heap.size wd W)) (fun kv _ => n - (intOf kv).toNat)
          case atStart => exact ⟨0, Nat.zero_le _, rfl, HBi⟩
          case round =>
            clear HBi
            obtain ⟨k, hkn, rfl, HBk⟩ := hrel
            by_cases hklt : k < n
            · obtain ⟨b1, p1, e1, r1⟩ := HRW.out _ HBk.out i hilt
              obtain ⟨b2, p2, e3, r2⟩ := HRW.out _ HBk.out k hklt
              have e2 := r1 k hklt
              have e4 := r2 i hilt
              have HZ := Lib.hid (Rea.dst_zero (n := n) (S := S) (L := L) (i := i) (x := k))
              rw [Rea.dst_comm k i] at e4
              have hd1 := Rea.dst_lo (n := n) (S := S) (L := L) i k
              have HHI := Lib.hid (Rea.here_iff (n := n) (S := S) (x := k))
              clear r1 r2
              generalize hdv : Rea.dst n S L i k = dv at *
              clear hdv
              have tdd : (dv != dv) = false := by simp
              go_upto_region 16 with fail
              go_cut [88] from 54 to 137 (fun v W => v = .bool false ∧ Hid (Below wd.heap.size wd W))
              case first =>
                by_cases hik : i = k
                · subst hik
                  have tik : ((i : Int) == (i : Int)) = true := by simp
                  cases hsb : S.testBit i with
                  | true =>
                    have hne : dv ≠ 0 := fun h => by
                      have := HHI.out.1 (HZ.out.1 h).2
                      rw [hsb] at this
                      exact absurd this.2 (by simp)
                    have t0 : (dv == 0) = false := beq_eq_false_iff_ne.2 hne
                    have CHX := Lib.hid (fun W => CH.out i W)
                    rw [hsb] at CHX
                    clear hne HZ HHI hsb
                    go_quiet ((go_at_call 19; with_reducible exact Rea.quiet_same (CHX.out _)))
                    have HBq := Lib.hid (Own.below_drewN HBk.out nq)
                    go_wp2_with fail
                    go_meet
                    case rel => exact ⟨rfl, HBq⟩
                  | false =>
                    have h0 : dv = 0 := HZ.out.2 ⟨rfl, HHI.out.2 ⟨hilt, hsb⟩⟩
                    have t0 : (dv == 0) = true := beq_iff_eq.2 h0
                    have CHX := Lib.hid (fun W => CH.out i W)
                    rw [hsb] at CHX
                    clear h0 HZ HHI hsb
                    go_quiet ((go_at_call 19; with_reducible exact Rea.quiet_same (CHX.out _)))
                    have HBq := Lib.hid (Own.below_drewN HBk.out nq)
                    go_wp2_with fail
                    go_meet
                    case rel => exact ⟨rfl, HBq⟩
                · have tik : ((i : Int) == (k : Int)) = false := beq_eq_false_iff_ne.2 (by omega)
                  have hne : dv ≠ 0 := fun h => hik (HZ.out.1 h).1
                  have t0 : (dv == 0) = false := beq_eq_false_iff_ne.2 hne
                  clear hne hik HZ HHI
                  go_quiet (fail)
                  have HBq := Lib.hid (Own.below_drewN HBk.out nq)
                  go_wp2_with fail
                  go_meet
                  case rel => exact ⟨rfl, HBq⟩
              case rest =>
                obtain ⟨rfl, HBc⟩ := hcut
                obtain ⟨c0, c1⟩ := HC.out wc (HBX.out _ HBc.out)
                clear e1 e2 e3 e4 HZ HHI tdd HBk
                go_wp2_with fail
                go_loopw [92] (fun jv W => ∃ j : Nat, j ≤ L.length ∧ jv = .int .i64 j ∧ Hid (Below wd.heap.size wd W)) (fun jv _ => L.length - (intOf jv).toNat)
                case atStart => exact ⟨0, Nat.zero_le _, rfl, HBc⟩
                case round =>
                  clear c0 c1 HBc
                  obtain ⟨j, hjl, rfl, HBj⟩ := hrel
                  by_cases hjlt : j < L.length
                  · obtain ⟨bz, off, hadz, hbz, q0, q1⟩ := Grf.rd_at (HRL.out _ (HBX.out _ HBj.out)) (i := j) hjlt
                    subst hadz
                    obtain ⟨m1, m2, m3, m4, m5⟩ := HOK.out.1 (L.getD j (0, 0)) (Grf.getD_memG hjlt)
                    have HAD := Lib.hid (fun h1 h2 => Rea.dst_at_link (n := n) (S := S) (L := L) i hjlt HOK.out h1 h2)
                    generalize L.getD j (0, 0) = pq at *
                    obtain ⟨x, y⟩ := pq
                    simp only at q0 q1 m1 m2 m3 m4 m5 HAD
                    obtain ⟨xn, rfl⟩ := Int.eq_ofNat_of_zero_le m1
                    obtain ⟨yn, rfl⟩ := Int.eq_ofNat_of_zero_le m3
                    have hxn : xn < n := by omega
                    have hyn : yn < n := by omega
                    have hBw : Below wr.heap.size wr (wr.alloc (.cells #[.int .i64 (xn : Int), .int .i64 (yn : Int)] 47)) := (Below.refl _ _).alloc (Nat.le_refl _) _
                    have HBw := Lib.hid (HBj.out.trans (hBw.mono HBj.out.size))
                    obtain ⟨b1, p1, e1, r1⟩ := HRW.out _ HBw.out i hilt
                    have e2 := r1 xn hxn
                    have e4 := r1 yn hyn
                    have ha1 := Rea.dst_lo (n := n) (S := S) (L := L) i xn
                    have HA2 := Lib.hid (Rea.dst_hi (n := n) (S := S) (L := L) i xn)
                    have hb1 := Rea.dst_lo (n := n) (S := S) (L := L) i yn
                    have HB2 := Lib.hid (Rea.dst_hi (n := n) (S := S) (L := L) i yn)
                    clear r1 hbz m1 m2 m3 m4 m5 hBw
                    simp only [Int.toNat_natCast] at HAD
                    generalize Rea.dst n S L i xn = va at *
                    generalize Rea.dst n S L i yn = vb at *
                    have ha2 : va ≤ 64 := by by_cases h : 0 ≤ va
                                             · have := HA2.out h; omega
                                             · omega
                    have hb2 : vb ≤ 64 := by by_cases h : 0 ≤ vb
                                             · have := HB2.out h; omega
                                             · omega
                    clear HA2 HB2
                    go_upto_region 21 with fail
                    go_quiet (fail)
                    have HBq := Lib.hid (Own.below_drewN HBw.out nq)
                    have CHX := Lib.hid (fun W => CH.out xn W)
                    have CHY := Lib.hid (fun W => CH.out yn W)
                    clear HBw e1 e2 e4 q0 q1
                    cases hsx : S.testBit xn with
                    | true =>
                      rw [hsx] at CHX
                      clear hsx HAD
                      go_wp2_with fail
                      refine (CHX.out _).mono ?_; rintro e w' ⟨rfl, rfl⟩
                      go_wp2_with fail
                      go_roundw
                      case rel => exact ⟨j + 1, by omega, by go_num, HBq⟩
                      case measure => simp [intOf]; omega
                    | false =>
                      rw [hsx] at CHX
                      cases hsy : S.testBit yn with
                      | true =>
                        rw [hsy] at CHY
                        clear hsx hsy HAD
                        go_wp2_with fail
                        refine (CHX.out _).mono ?_; rintro e w' ⟨rfl, rfl⟩
                        go_wp2_with fail
                        refine (CHY.out _).mono ?_; rintro e w' ⟨rfl, rfl⟩
                        go_wp2_with fail
                        go_roundw
                        case rel => exact ⟨j + 1, by omega, by go_num, HBq⟩
                        case measure => simp [intOf]; omega
                      | false =>
                        rw [hsy] at CHY
                        obtain ⟨hab, hba⟩ := HAD.out hsx hsy
                        have t1 : decide (1 < va - vb) = false := decide_eq_false (by omega)
                        have t2 : decide (1 < vb - va) = false := decide_eq_false (by omega)
                        have t1' : ¬ (1 < va - vb) := by omega
                        have t2' : ¬ (1 < vb - va) := by omega
                        clear hsx hsy HAD
                        go_wp2_with fail
                        refine (CHX.out _).mono ?_; rintro e w' ⟨rfl, rfl⟩
                        go_wp2_with fail
                        refine (CHY.out _).mono ?_; rintro e w' ⟨rfl, rfl⟩
                        go_wp2_with fail
                        go_roundw
                        case rel => exact ⟨j + 1, by omega, by go_num, HBq⟩
                        case measure => simp [intOf]; omega
                  · obtain rfl : j = L.length := by omega
                    go_wp2_with fail
                    go_roundw
                    case rel => exact ⟨k + 1, by omega, by go_num, HBj⟩
                    case measure => simp [intOf]; omega
            · obtain rfl : k = n := by omega
              go_wp2_with fail
              go_roundw
              case rel => exact ⟨i + 1, by omega, by go_num, HBk⟩
              case measure => simp [intOf]; omega
        · obtain rfl : i = n := by omega
          have CWW := Lib.hid (CW.out _ (HBX.out _ HBi.out))
          have HFF := Lib.hid (HF.out _ (HBX.out _ HBi.out))
          go_wp2_with fail
          refine (CWW.out).mono ?_; rintro e w9 ⟨rfl, hB9⟩
          go_wp2_with fail
          go_ret
          exact ⟨rfl, HFF.out.trans (hB9.mono HFF.out.size)⟩

set_option maxRecDepth 100000 in
theorem lifted (os : Os) (started : os.Started) (H : Type) (enc : TypeId × Value → H) :
    ReturnsInHanded {} Tryd.checked os 6 .any (fun w args => (Rows.reachBothSpec.pre enc Tryd.prog Tryd.f6 [] false w args ∧ laidMetH Tryd.prog Rea.laidL w) ∧ sizedMet enc Tryd.prog Tryd.f6 (OpenSpec.ofChange Rows.reachBothSpec) false w args) (Rows.reachBothSpec.post enc Tryd.prog Tryd.f6 false true false false) := by
  refine returnsInHanded_of_change_and (C := Tryd.checked) (X := fun w _ => laidMetH Tryd.prog Rea.laidL w) (fun _ _ _ hh h => h.of_heap hh) own started (by kernel_rfl) Tryd.func6
    (ChangeSpec.witness_shaped (enc := enc) (C := Tryd.checked) (os := os) (X := fun w _ => laidMetH Tryd.prog Rea.laidL w) false (World.doorLaid Tryd.prog 14 os) #[.agg #[.int .i64 0, .slice none 0 0], .int .u64 0] 8 rfl (World.shaped_of_RefB (by kernel_rfl) (by kernel_rfl)) (by kernel_rfl) (by kernel_rfl) (by kernel_rfl) (Rea.door_met os _)) ?_
  intro W base args ds gs before hval0 hW _ _ hL _
  have hval : ∀ (j : Nat) t v, Tryd.f6.params[j]? = some t → args[j]? = some v → Value.okWide Tryd.prog W .any base t v := hval0
  have hW' := hW
  obtain ⟨p, q, hA0, hV, rfl, hfz, hnd⟩ := hW
  have hA : DataW.TrodAll enc Tryd.prog W 0 (fun _ => true) true Tryd.f6.params.toList args.toList ds p := hA0
  rw [Tryd.params6] at hA hval
  obtain ⟨v0, vs0, d0, ds0, p0, q0, hargs, rfl, rfl, h0, r0⟩ := trodAll_cons hA
  obtain ⟨v1, vs1, d1, ds1, p1, q1, rfl, rfl, rfl, h1, r1⟩ := trodAll_cons r0
  obtain ⟨rfl, rfl, rfl⟩ := trodAll_nil r1
  obtain rfl : args = #[v0, v1] := by cases args; simp_all
  obtain ⟨rfl, rfl⟩ := trodVars_none hV
  have k0 := h0
  have lt0 : ∀ x ∈ p0, x.block < W.heap.size := by obtain ⟨m, hm⟩ := k0; exact DataW.trod_lt m _ _ _ hm
  obtain ⟨a0, rfl, w0⟩ := Rea.open_world (hval 0 24 v0 rfl rfl) h0
  obtain ⟨a1, rfl, rfl, rfl, w1⟩ := open_int Tryd.underlying25 (hval 1 25 v1 rfl rfl) h1
  clear hA0 hval0
  have hT := Rea.tabs_of_laid hL
  refine (walk a0 a1 W w0 w1 hT).mono fun e W' ⟨he, bel⟩ => ?_
  subst he
  exact ⟨_, rfl, _, _, _, [], _, [], hW', trodAll_mk1 (shut_bool Tryd.underlying4 _), (trodAll_cons_mk (Below.trod laidOut (by kernel_rfl) (of_decide_eq_true (by kernel_rfl)) k0 bel lt0) (trodAll_cons_mk (shut_int Tryd.underlying25 w1) trodAll_mk0)), rfl, bel.frame _, fun h => by cases h⟩

theorem over : Rows.reachBothRow.holds Tryd.pinned (OpenSpec.ofChange Rows.reachBothSpec) :=
  OpenClaim.holds_of_wide 6 Tryd.f6 rfl rfl rfl rfl rfl rfl rfl ⟨rfl, rfl, rfl, rfl, rfl⟩ rfl rfl rfl rfl rfl (by kernel_rfl) Tryd.func6 (by kernel_rfl)
    (of_decide_eq_true (by kernel_rfl)) (by unfold Func.isWrapper; first | (rw [if_pos (by decide +kernel)]; kernel_rfl) | (rw [if_neg (by decide +kernel)]; exact ⟨rfl, rfl⟩))
    (fun os started H enc _ => lifted os started H enc)

theorem func_is {f : FuncId} (h : Tryd.prog.funcNamed Rows.reachBothRow.func = some f) : f = 6 :=
  Option.some.inj (h.symm.trans (show Tryd.prog.funcNamed Rows.reachBothRow.func = some 6 by kernel_rfl))
theorem proved : Rows.ReachBothCardSaid :=
  Claim7.holds_tied_plain_at .later [] Rows.reachBothCard.laidKinds true Rows.reachBothCard.stood.harness false
    over (fun _ h => by cases h) (by kernel_rfl) (fun _ h => by cases h) reachBoth_row_tie rfl ⟨rfl, rfl⟩ (by kernel_rfl) rfl
    (fun f fn hf hfn => by
      obtain rfl := func_is hf
      obtain rfl : fn = Tryd.f6 := (Option.some.inj (Tryd.func6.symm.trans hfn)).symm
      exact ⟨by kernel_rfl, fun j t ht => by
        rw [Tryd.params6] at ht
        have hm : t ∈ [24, 25] := by simpa using Array.mem_of_getElem? ht
        have hall : ([24, 25].all fun u => !Tryd.prog.wantsStandIn u) = true := by kernel_rfl
        exact (show Tryd.prog.wantsStandIn t = false by simpa using List.all_eq_true.1 hall t hm)⟩)
    (by kernel_rfl)
#print axioms proved
end Go.Proofs.YtcfdnbdemiokeaaDoor.lawReachBoth
