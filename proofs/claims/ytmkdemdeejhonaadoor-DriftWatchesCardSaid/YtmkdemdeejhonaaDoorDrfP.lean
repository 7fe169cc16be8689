/- Contracts of the document's own answers for layer 28: Pace. Written by gen/drf_p.py. -/
import Derived.Test.YtmkdemdeejhonaaDoorDrfG
namespace Go.Proofs.YtmkdemdeejhonaaDoor.Drf
open Go.ChangeShapes Go.WideShapes Go.ChangeAt Go.RowKit
open Go.Proofs.YtmkdemdeejhonaaDoor.Rw
set_option linter.unusedVariables false
set_option maxRecDepth 100000
theorem ebox2 (w w0 : World) (n m : Nt) (ad ad' : Option Addr) (cap cap' : Nat) (h : w0 = (w.alloc (.cells #[.int .i64 n.tick, .slice ad n.l.length cap, .int .u64 (n.set : Int)] 29)).alloc (.cells #[.int .i64 m.tick, .slice ad' m.l.length cap', .int .u64 (m.set : Int)] 29)) :
    Below w.heap.size w w0 ∧ ∀ W, Below w0.heap.size w0 W → (W.cell? ⟨w.heap.size, 0, none⟩ = some (.int .i64 n.tick) ∧ W.cell? ⟨w.heap.size, 1, none⟩ = some (.slice ad n.l.length cap) ∧ W.cell? ⟨w.heap.size, 2, none⟩ = some (.int .u64 (n.set : Int))) ∧
      W.cell? ⟨w.heap.size + 1, 0, none⟩ = some (.int .i64 m.tick) ∧ W.cell? ⟨w.heap.size + 1, 1, none⟩ = some (.slice ad' m.l.length cap') ∧ W.cell? ⟨w.heap.size + 1, 2, none⟩ = some (.int .u64 (m.set : Int)) := by
  subst h
  refine ⟨((Below.refl _ _).alloc (Nat.le_refl _) _).alloc (by simp) _, fun W hB => ?_⟩
  have hb := ((Blk.new w 29 #[.int .i64 n.tick, .slice ad n.l.length cap, .int .u64 (n.set : Int)]).alloc (.cells #[.int .i64 m.tick, .slice ad' m.l.length cap', .int .u64 (m.set : Int)] 29)).below hB
  have hc := (Blk.new (w.alloc (.cells #[.int .i64 n.tick, .slice ad n.l.length cap, .int .u64 (n.set : Int)] 29)) 29 #[.int .i64 m.tick, .slice ad' m.l.length cap', .int .u64 (m.set : Int)]).below hB
  rw [World.size_alloc] at hc
  exact ⟨⟨hb.cell 0, hb.cell 1, hb.cell 2⟩, hc.cell 0, hc.cell 1, hc.cell 2⟩
set_option maxHeartbeats 8000000 in
theorem rpace_any (n m : Nt) (ad ad' : Option Addr) (cap cap' : Nat) (slow fast : Int) (hs : -9223372036854775808 ≤ slow ∧ slow ≤ 9223372036854775807) (hf : -9223372036854775808 ≤ fast ∧ fast ≤ 9223372036854775807)
    (hS : n.set < 18446744073709551616) (hS' : m.set < 18446744073709551616) (w : World) (h : I64s.Sl w ad cap n.l) (h' : I64s.Sl w ad' cap' m.l) :
    Calls Tryd.prog 8 #[eval n ad cap, eval m ad' cap', .int .i64 slow, .int .i64 fast] w fun e w' => e = .returned (.int .i64 ((lateN n m slow fast : Nat) : Int)) ∧ Below w.heap.size w w' := by
  obtain ⟨w0, hw0⟩ : ∃ w0, Hid (w0 = (w.alloc (.cells #[.int .i64 n.tick, .slice ad n.l.length cap, .int .u64 (n.set : Int)] 29)).alloc (.cells #[.int .i64 m.tick, .slice ad' m.l.length cap', .int .u64 (m.set : Int)] 29)) := ⟨_, Lib.hid rfl⟩
  obtain ⟨hB0, hX⟩ := ebox2 w w0 n m ad ad' cap cap' hw0.out
  have HB0 := Lib.hid hB0
  have HX := Lib.hid hX
  have CHa := Lib.hid (fun (i : Nat) W => show Calls Tryd.prog 15 #[.agg #[.int .i64 n.tick, .slice ad n.l.length cap, .int .u64 (n.set : Int)], .int .i64 (i : Int)] W fun e w' => e = .returned (.bool (n.has i)) ∧ Below W.heap.size W w' from rhasN_any n.tick ad n.l.length cap n.set hS i W)
  have CHb := Lib.hid (fun (i : Nat) W => show Calls Tryd.prog 15 #[.agg #[.int .i64 m.tick, .slice ad' m.l.length cap', .int .u64 (m.set : Int)], .int .i64 (i : Int)] W fun e w' => e = .returned (.bool (m.has i)) ∧ Below W.heap.size W w' from rhasN_any m.tick ad' m.l.length cap' m.set hS' i W)
  have CTa := Lib.hid (fun (i : Nat) W => show Calls Tryd.prog 16 #[.int .i64 (n.l.getD i 0)] W fun e w' => e = .returned (.int .i64 (n.t i)) ∧ W = w' from rtime_any (n.l.getD i 0) W)
  have CTb := Lib.hid (fun (i : Nat) W => show Calls Tryd.prog 16 #[.int .i64 (m.l.getD i 0)] W fun e w' => e = .returned (.int .i64 (m.t i)) ∧ W = w' from rtime_any (m.l.getD i 0) W)
  have CTn := Lib.hid (fun W => rtime_any n.tick W)
  have CTm := Lib.hid (fun W => rtime_any m.tick W)
  have HLa := Lib.hid (fun (i : Nat) (hi : n.has i = true) => h.at (has_len hi))
  have HLb := Lib.hid (fun (i : Nat) (hi : m.has i = true) => h'.at (has_len hi))
  have HTa := Lib.hid (fun (i : Nat) (hi : n.has i = true) => has_len hi)
  have HTb := Lib.hid (fun (i : Nat) (hi : m.has i = true) => has_len hi)
  have hlm : n.l.length ≤ 9223372036854775807 := Nat.le_trans h.le h.mx
  have hlm' : m.l.length ≤ 9223372036854775807 := Nat.le_trans h'.le h'.mx
  have k1 := kp_bd n.tick
  have k2 := kp_bd m.tick
  have hwt : IntKind.i64.wrap (kp m.tick - kp n.tick) = kp m.tick - kp n.tick := by rw [IntKind.wrap_i64]; omega
  have HE0 : Hid (kp m.tick - kp n.tick < 1 → lateN n m slow fast = 0) := Lib.hid (fun h => late_no h)
  have HE1 : Hid (¬ kp m.tick - kp n.tick < 1 → lateN n m slow fast = lateK n m slow fast 64) := Lib.hid (fun h => (late_eq hS hS' h).symm)
  have HOUT : Hid (∀ i, ¬ kp m.tick - kp n.tick < 1 → (Span.fitB ((kp m.tick - kp n.tick) * slow) && decide (m.t i - n.t i < Span.fitV ((kp m.tick - kp n.tick) * slow)) || !Span.fitB ((kp m.tick - kp n.tick) * slow) && decide (0 < slow) || Span.fitB ((kp m.tick - kp n.tick) * fast) && decide (Span.fitV ((kp m.tick - kp n.tick) * fast) < m.t i - n.t i) || !Span.fitB ((kp m.tick - kp n.tick) * fast) && decide (fast < 0)) = outB n m slow fast i) := Lib.hid (fun i h => by
    have b1 := n.t_bd i
    have b2 := m.t_bd i
    exact pace_ref (by omega) (by omega) (by omega))
  clear hB0 hX h h' hS hS'
  unfold eval
  obtain ⟨ln, hln⟩ : ∃ ln, n.l.length = ln := ⟨_, rfl⟩
  obtain ⟨lm, hlm2⟩ : ∃ lm, m.l.length = lm := ⟨_, rfl⟩
  rw [hln] at hw0 HX CHa HTa hlm ⊢
  rw [hlm2] at hw0 HX CHb HTb hlm' ⊢
  clear hln hlm2
  have q0 : ∀ x : Qui.Cls w0, x.V.cell? ⟨w.heap.size, 0, none⟩ = some (.int .i64 n.tick) := fun x => (HX.out _ x.lies).1.1
  have q1 : ∀ x : Qui.Cls w0, x.V.cell? ⟨w.heap.size + 1, 0, none⟩ = some (.int .i64 m.tick) := fun x => (HX.out _ x.lies).2.1
  generalize kp m.tick = km at *
  generalize kp n.tick = kn at *
  go_enter Tryd.func8, Tryd.ntmps8
  go_upto_region 1 with fail
  rw [← hw0.out]
  refine Qui.wp_region_quiet_below (by kernel_rfl) (by kernel_rfl) ?_
  repeat (go_big_quiet_step (first
    | (go_at_call 15; first | fail)
    | (go_at_call 16; first | (with_reducible exact Qui.cls_same (CTn.out _)) | (with_reducible exact Qui.cls_same (CTm.out _)))))
  refine wpQuiet_nil ?_
  intro _ hw'
  obtain ⟨zz, rfl⟩ := hw'
  have hV0 := zz.lies
  have HB1 := Lib.hid (HB0.out.trans (hV0.mono HB0.out.size))
  have HX1 := Lib.hid (fun W (hW : Below zz.V.heap.size zz.V W) => HX.out W (hV0.trans (hW.mono hV0.size)))
  clear hV0 q0 q1 HX CTn CTm hw0
  generalize zz.V = w1 at *
  clear zz
  obtain ⟨tk, htk⟩ : ∃ tk, km - kn = tk := ⟨_, rfl⟩
  rw [htk] at HE0 HE1 HOUT hwt ⊢
  have ht2 : tk ≤ 1152921504606846976 := by omega
  have ht3 : -1152921504606846976 ≤ tk := by omega
  clear htk k1 k2 hwt
  go_wp2_with fail
  go_loopw [9, 11] (fun c i wr => ∃ k : Nat, k ≤ 64 ∧ c = .int .i64 ((lateK n m slow fast k : Nat) : Int) ∧ i = .int .i64 k ∧ Hid (tk < 1 → k = 0) ∧ Hid (Below w1.heap.size w1 wr)) (fun _ i _ => 64 - (intOf i).toNat)
  case atStart => exact ⟨0, by omega, rfl, rfl, Lib.hid (fun _ => rfl), Lib.hid (Below.refl _ _)⟩
  case round =>
    obtain ⟨k, hk, rfl, rfl, HK, HB⟩ := hrel
    by_cases ht1 : tk < 1
    · have hk0 := HK.out ht1
      subst hk0
      have ht0 : decide (0 < tk) = false := decide_eq_false (by omega)
      have HE := Lib.hid (HE0.out ht1)
      have HBE := Lib.hid (HB1.out.trans (HB.out.mono HB1.out.size))
      have HZ : Hid (lateK n m slow fast 0 = 0) := Lib.hid rfl
      rw [HZ.out]
      clear HLa HLb HTa HTb CHa CHb CTa CTb HE0 HE1 HOUT HX1 HK HB HB1 HB0 HZ
      go_wp2_with fail
      go_ret
      exact ⟨by rw [HE.out]; rfl, HBE.out⟩
    have ht0 : decide (0 < tk) = true := decide_eq_true (by omega)
    by_cases hlt : k < 64
    · have hk64 : (k : Int) < 64 := by omega
      have HBV := Lib.hid (fun W (hW : Below wr.heap.size wr W) => HB.out.trans (hW.mono HB.out.size))
      have HXV := Lib.hid (fun W (hW : Below wr.heap.size wr W) => HX1.out _ (HB.out.trans (hW.mono HB.out.size)))
      obtain ⟨⟨c0, c1, c2⟩, d0, d1, d2⟩ := HXV.out wr (Below.refl _ _)
      have CHi := Lib.hid (fun W => CHa.out k W)
      have CHk := Lib.hid (fun W => CHb.out k W)
      have HO := Lib.hid (HOUT.out k (by omega))
      have HN0 : Hid ((n.has k && m.has k && outB n m slow fast k) = false → lateK n m slow fast (k + 1) = lateK n m slow fast k) := Lib.hid (fun h => lateK_no h)
      have HN1 : Hid ((n.has k && m.has k && outB n m slow fast k) = true → lateK n m slow fast (k + 1) = lateK n m slow fast k + 1) := Lib.hid (fun h => lateK_yes h)
      have HLE := Lib.hid (lateK_le n m slow fast k)
      cases hhi : n.has k with
      | false =>
        have HV : Hid (lateK n m slow fast (k + 1) = lateK n m slow fast k) := Lib.hid (HN0.out (by rw [hhi]; rfl))
        rw [hhi] at CHi
        clear HLa HLb HTa HTb CTa CTb CHa CHb CHk HE0 HE1 HOUT HO HN0 HN1 HK hhi
        generalize lateK n m slow fast k = lk at *
        go_wp2_with fail
        refine (CHi.out _).mono ?_; rintro e w2 ⟨rfl, hB2⟩
        have HB2 := Lib.hid (HBV.out _ hB2)
        clear hB2 HBV HXV
        go_wp2_with fail
        go_roundw
        case rel => exact ⟨k + 1, by omega, by rw [HV.out], by go_num, Lib.hid (fun h => by omega), HB2⟩
        case measure => simp [intOf]; omega
      | true =>
        rw [hhi] at CHi
        cases hhk : m.has k with
        | false =>
          have HV : Hid (lateK n m slow fast (k + 1) = lateK n m slow fast k) := Lib.hid (HN0.out (by rw [hhk, Bool.and_false]; rfl))
          rw [hhk] at CHk
          clear HLa HLb HTa HTb CTa CTb CHa CHb HE0 HE1 HOUT HO HN0 HN1 HK hhi hhk
          generalize lateK n m slow fast k = lk at *
          go_wp2_with fail
          refine (CHi.out _).mono ?_; rintro e w2 ⟨rfl, hB2⟩
          obtain ⟨⟨c0', c1', c2'⟩, d0', d1', d2'⟩ := HXV.out w2 hB2
          have HB2 := Lib.hid hB2
          clear hB2
          go_wp2_with fail
          refine (CHk.out _).mono ?_; rintro e w3 ⟨rfl, hB3⟩
          have HB3 := Lib.hid (HBV.out _ (HB2.out.trans (hB3.mono HB2.out.size)))
          clear hB3 HBV HXV HB2
          go_wp2_with fail
          go_roundw
          case rel => exact ⟨k + 1, by omega, by rw [HV.out], by go_num, Lib.hid (fun h => by omega), HB3⟩
          case measure => simp [intOf]; omega
        | true =>
          rw [hhk] at CHk
          obtain ⟨b, off, had, hca⟩ := HLa.out _ hhi
          obtain ⟨b', off', had', hcb⟩ := HLb.out _ hhk
          subst had
          subst had'
          have hli := HTa.out _ hhi
          have hlj := HTb.out _ hhk
          have hli' : (k : Int) < (ln : Int) := by omega
          have hlj' : (k : Int) < (lm : Int) := by omega
          have CTi := Lib.hid (fun W => CTa.out k W)
          have CTk := Lib.hid (fun W => CTb.out k W)
          have HCE := Lib.hid (fun W (hW : Below w1.heap.size w1 W) => And.intro (hca _ (HB1.out.trans (hW.mono HB1.out.size))) (hcb _ (HB1.out.trans (hW.mono HB1.out.size))))
          have b1 := n.t_bd k
          have b2 := m.t_bd k
          have hwr : IntKind.i64.wrap (m.t k - n.t k) = m.t k - n.t k := by rw [IntKind.wrap_i64]; omega
          have HV0 : Hid (outB n m slow fast k = false → lateK n m slow fast (k + 1) = lateK n m slow fast k) := Lib.hid (fun h => HN0.out (by rw [h, Bool.and_false]))
          have HV1 : Hid (outB n m slow fast k = true → lateK n m slow fast (k + 1) = lateK n m slow fast k + 1) := Lib.hid (fun h => HN1.out (by rw [h, hhi, hhk]; rfl))
          have CM := Lib.hid (fun z (hz : -9223372036854775808 ≤ z ∧ z ≤ 9223372036854775807) W => Span.rmul_any tk z (by omega) hz W)
          have CMs := Lib.hid (fun W => CM.out slow hs W)
          have CMf := Lib.hid (fun W => CM.out fast hf W)
          clear CM HLa HLb HTa HTb CTa CTb CHa CHb HE0 HE1 HOUT HN0 HN1 HK hhi hhk hca hcb
          generalize n.l.getD k 0 = li at *
          generalize m.l.getD k 0 = lj at *
          generalize n.t k = ti at *
          generalize m.t k = tj at *
          generalize outB n m slow fast k = ob at *
          generalize Span.fitV (tk * slow) = vs at *
          generalize Span.fitV (tk * fast) = vf at *
          obtain ⟨lk, hlk⟩ : ∃ lk, Hid (lateK n m slow fast k = lk) := ⟨_, Lib.hid rfl⟩
          rw [hlk.out] at HV0 HV1 HLE ⊢
          have hwl : IntKind.i64.wrap ((lk : Int) + 1) = ((lk + 1 : Nat) : Int) := by have := HLE.out; rw [IntKind.wrap_i64]; omega
          go_wp2_with fail
          refine (CHi.out _).mono ?_; rintro e w2 ⟨rfl, hB2⟩
          obtain ⟨⟨c0', c1', c2'⟩, d0', d1', d2'⟩ := HXV.out w2 hB2
          have HB2 := Lib.hid hB2
          clear hB2 c0 c1 c2 d0 d1 d2
          go_wp2_with fail
          refine (CHk.out _).mono ?_; rintro e w3 ⟨rfl, hB3⟩
          have HB3 := Lib.hid (HBV.out _ (HB2.out.trans (hB3.mono HB2.out.size)))
          clear hB3 HBV HXV HB2 c0' c1' c2' d0' d1' d2'
          have HBV := Lib.hid (fun W (hW : Below w3.heap.size w3 W) => HB3.out.trans (hW.mono HB3.out.size))
          have q1 : ∀ x : Qui.Cls w3, x.V.cell? ⟨w.heap.size, 1, none⟩ = some (.slice (some ⟨b, off, none⟩) ln cap) := fun x => (HX1.out _ (HBV.out _ x.lies)).1.2.1
          have q2 : ∀ x : Qui.Cls w3, x.V.cell? ⟨w.heap.size + 1, 1, none⟩ = some (.slice (some ⟨b', off', none⟩) lm cap') := fun x => (HX1.out _ (HBV.out _ x.lies)).2.2.1
          have q3 : ∀ x : Qui.Cls w3, x.V.cell? ⟨b, off + k, none⟩ = some (.int .i64 li) := fun x => (HCE.out _ (HBV.out _ x.lies)).1
          have q4 : ∀ x : Qui.Cls w3, x.V.cell? ⟨b', off' + k, none⟩ = some (.int .i64 lj) := fun x => (HCE.out _ (HBV.out _ x.lies)).2
          go_upto_region 6 with fail
          refine Qui.wp_region_quiet_below (by kernel_rfl) (by kernel_rfl) ?_
          repeat (go_big_quiet_step (first
            | (go_at_call 15; first | fail)
            | (go_at_call 16; first | (with_reducible exact Qui.cls_same (CTi.out _)) | (with_reducible exact Qui.cls_same (CTk.out _)))))
          refine wpQuiet_nil ?_
          intro _ hw'
          obtain ⟨zz, rfl⟩ := hw'
          have HB4 := Lib.hid (HBV.out _ zz.lies)
          clear HBV HB3 q1 q2 q3 q4 CTi CTk CHi CHk HCE
          generalize zz.V = w4 at *
          clear zz
          go_wp2_with fail
          refine (CMs.out _).mono ?_; rintro e w' ⟨rfl, rfl⟩
          go_wp2_with fail
          refine (CMf.out _).mono ?_; rintro e w' ⟨rfl, rfl⟩
          go_upto_region 9 with fail
          clear CMs CMf
          generalize Span.fitB (tk * slow) = p at *
          generalize Span.fitB (tk * fast) = q at *
          obtain ⟨we, hwe⟩ : ∃ we, tj - ti = we := ⟨_, rfl⟩
          rw [hwe] at HO hwr ⊢
          clear hwe
          cases hp : p with
          | true =>
            subst hp
            cases h1 : decide (we < vs) with
            | true =>
              have HR : ob = true := by rw [← HO.out, h1]; first | rfl | simp
              have HV := Lib.hid (HV1.out HR)
              clear HO HV0 HV1 HR
              go_wp2_with fail
              go_roundw
              case rel => exact ⟨k + 1, by omega, by rw [HV.out, Int.natCast_add]; rfl, by go_num, Lib.hid (fun h => by omega), HB4⟩
              case measure => simp [intOf]; omega
            | false =>
              cases hq : q with
              | true =>
                subst hq
                cases h3 : decide (vf < we) with
                | true =>
                  have HR : ob = true := by rw [← HO.out, h1, h3]; first | rfl | simp
                  have HV := Lib.hid (HV1.out HR)
                  clear HO HV0 HV1 HR
                  go_wp2_with fail
                  go_roundw
                  case rel => exact ⟨k + 1, by omega, by rw [HV.out, Int.natCast_add]; rfl, by go_num, Lib.hid (fun h => by omega), HB4⟩
                  case measure => simp [intOf]; omega
                | false =>
                  have HR : ob = false := by rw [← HO.out, h1, h3]; first | rfl | simp
                  have HV := Lib.hid (HV0.out HR)
                  clear HO HV0 HV1 HR
                  go_wp2_with fail
                  go_roundw
                  case rel => exact ⟨k + 1, by omega, by rw [HV.out], by go_num, Lib.hid (fun h => by omega), HB4⟩
                  case measure => simp [intOf]; omega
              | false =>
                subst hq
                cases h4 : decide (fast < 0) with
                | true =>
                  have HR : ob = true := by rw [← HO.out, h1, h4]; first | rfl | simp
                  have HV := Lib.hid (HV1.out HR)
                  clear HO HV0 HV1 HR
                  go_wp2_with fail
                  go_roundw
                  case rel => exact ⟨k + 1, by omega, by rw [HV.out, Int.natCast_add]; rfl, by go_num, Lib.hid (fun h => by omega), HB4⟩
                  case measure => simp [intOf]; omega
                | false =>
                  have HR : ob = false := by rw [← HO.out, h1, h4]; first | rfl | simp
                  have HV := Lib.hid (HV0.out HR)
                  clear HO HV0 HV1 HR
                  go_wp2_with fail
                  go_roundw
                  case rel => exact ⟨k + 1, by omega, by rw [HV.out], by go_num, Lib.hid (fun h => by omega), HB4⟩
                  case measure => simp [intOf]; omega
          | false =>
            subst hp
            cases h2 : decide (0 < slow) with
            | true =>
              have HR : ob = true := by rw [← HO.out, h2]; first | rfl | simp
              have HV := Lib.hid (HV1.out HR)
              clear HO HV0 HV1 HR
              go_wp2_with fail
              go_roundw
              case rel => exact ⟨k + 1, by omega, by rw [HV.out, Int.natCast_add]; rfl, by go_num, Lib.hid (fun h => by omega), HB4⟩
              case measure => simp [intOf]; omega
            | false =>
              cases hq : q with
              | true =>
                subst hq
                cases h3 : decide (vf < we) with
                | true =>
                  have HR : ob = true := by rw [← HO.out, h2, h3]; first | rfl | simp
                  have HV := Lib.hid (HV1.out HR)
                  clear HO HV0 HV1 HR
                  go_wp2_with fail
                  go_roundw
                  case rel => exact ⟨k + 1, by omega, by rw [HV.out, Int.natCast_add]; rfl, by go_num, Lib.hid (fun h => by omega), HB4⟩
                  case measure => simp [intOf]; omega
                | false =>
                  have HR : ob = false := by rw [← HO.out, h2, h3]; first | rfl | simp
                  have HV := Lib.hid (HV0.out HR)
                  clear HO HV0 HV1 HR
                  go_wp2_with fail
                  go_roundw
                  case rel => exact ⟨k + 1, by omega, by rw [HV.out], by go_num, Lib.hid (fun h => by omega), HB4⟩
                  case measure => simp [intOf]; omega
              | false =>
                subst hq
                cases h4 : decide (fast < 0) with
                | true =>
                  have HR : ob = true := by rw [← HO.out, h2, h4]; first | rfl | simp
                  have HV := Lib.hid (HV1.out HR)
                  clear HO HV0 HV1 HR
                  go_wp2_with fail
                  go_roundw
                  case rel => exact ⟨k + 1, by omega, by rw [HV.out, Int.natCast_add]; rfl, by go_num, Lib.hid (fun h => by omega), HB4⟩
                  case measure => simp [intOf]; omega
                | false =>
                  have HR : ob = false := by rw [← HO.out, h2, h4]; first | rfl | simp
                  have HV := Lib.hid (HV0.out HR)
                  clear HO HV0 HV1 HR
                  go_wp2_with fail
                  go_roundw
                  case rel => exact ⟨k + 1, by omega, by rw [HV.out], by go_num, Lib.hid (fun h => by omega), HB4⟩
                  case measure => simp [intOf]; omega
    · obtain rfl : k = 64 := by omega
      have HE := Lib.hid (HE1.out (by omega))
      have HBE := Lib.hid (HB1.out.trans (HB.out.mono HB1.out.size))
      clear HLa HLb HTa HTb CHa CHb CTa CTb HE0 HE1 HOUT HX1 HK HB HB1 HB0
      go_wp2_with fail
      go_ret
      exact ⟨by rw [HE.out]; rfl, HBE.out⟩
end Go.Proofs.YtmkdemdeejhonaaDoor.Drf
