/- Who is there, of any packets, is as the document says, whatever their order. -/
import Derived.Test.YtepcbklokcfbfaaRows
import Derived.WalkKit
import Derived.ProofKit
import Derived.OpenShut
import Derived.ShutString
import Derived.ChangeOld
import Derived.Below
import Derived.Test.YtepcbklokcfbfaaAttK
import Derived.Test.YtepcbklokcfbfaaAttS
import Derived.Deep.MidRow
import Derived.Deep.Cut
namespace Go.Proofs.Ytepcbklokcfbfaa.lawAttendWho
open Go.ChangeShapes Go.WideShapes Go.ChangeAt Go.RowKit
open Go.ChangeMaps (open_string shut_string)
set_option linter.unusedVariables false

theorem own : ownKnob Try.prog.godebug = none := by kernel_rfl
theorem laidOut : laidOutB Try.prog = true := by kernel_rfl

/-! The walk: the Go text returns true and writes nothing that was there. -/
set_option linter.unusedSimpArgs false in
set_option maxRecDepth 100000 in
set_option maxHeartbeats 4000000 in
theorem walk (a0 : Int) (a1 : Option Addr) (len1 cap1 : Nat) (z1 : List Hed.Pk) (w : World) (w0 : (Lit.int .i64 a0).wf = true) (w1 : Att.Pks w w.heap.size a1 len1 cap1 z1) :
    Calls Try.prog 6 #[.int .i64 a0, .slice a1 len1 cap1] w fun e w' => e = .returned (.bool true) ∧ Below w.heap.size w w' := by
  have hlen1 := w1.len_
  have hlc0 := w1.le
  have hcm0 := w1.max
  have HRD0 := w1.rd
  have HOK0 := w1.ok
  have hin : (len1 : Int) ≤ (cap1 : Int) ∧ (cap1 : Int) ≤ 9223372036854775807 := by omega
  obtain ⟨hin1, hin2⟩ := hin
  have hBa : Below w.heap.size w (w.alloc (.cells #[] 27)) := (Below.refl _ _).alloc (Nat.le_refl _) _
  have HO := Lib.hid (Att.ownP_zero w)
  have HRD : Hid (Att.RdP (w.alloc (.cells #[] 27)) a1 (z1.take 20)) := Lib.hid ((HRD0.below hBa).take 20)
  have HE : Hid ((min (len1 : Int) 20).toNat = (z1.take 20).length) := Lib.hid (by rw [List.length_take]; omega)
  have HY : Hid ((z1.take 20).length ≤ 20) := Lib.hid (by rw [List.length_take]; omega)
  have HN : Hid (a1 = none → (min (len1 : Int) 20).toNat = 0 ∧ cap1 = 0) := Lib.hid (fun hh => by have := w1.nil hh; omega)
  have HBd : Hid (∀ W, Below w.heap.size w W → ∀ t ∈ z1.take 20, Byt.RdB W t.ad t.body) := Lib.hid (fun W hW t ht => (HOK0 t (List.mem_of_mem_take ht)).rd.below hW)
  have HBz := Lib.hid hBa.size
  have HBa := Lib.hid hBa
  have CW := Lib.hid (fun W => Att.aworks_any W)
  have CT : Hid (∀ W ad cap (l : List Hed.Pk), l.length ≤ 40 → Below w.heap.size w W → Att.RdP W ad l → (∀ t ∈ l, t ∈ z1.take 20) → (∀ f : Hed.Pk → Bool, l.any f = (z1.take 20).any f) → Calls Try.prog 24 #[.int .i64 a0, .slice ad l.length cap] W fun e w' => e = .returned (.int .u64 (Att.whoN a0 (z1.take 20))) ∧ Hid (Below w.heap.size w w') ∧ Hid (Below W.heap.size W w')) := Lib.hid (fun W ad cap l hl hB hr hm hf => by
    have h := Att.awho_any a0 ad l.length cap l W rfl (by omega) hr (fun t ht => HBd.out W hB t (hm t ht))
    rw [Att.who_same a0 hf] at h
    exact h.mono fun e w' hq => ⟨hq.1, Lib.hid (hB.trans (hq.2.mono hB.size)), Lib.hid hq.2⟩)
  have CR : Hid (∀ W ad cap, Below w.heap.size w W → Att.RdP W ad (z1.take 20) → Calls Try.prog 23 #[.int .i64 a0, .slice ad (z1.take 20).length cap] W fun e w' => e = .returned (.int .u64 (Att.whoN a0 (z1.take 20))) ∧ Hid (Below w.heap.size w w') ∧ Hid (Below W.heap.size W w')) := Lib.hid (fun W ad cap hB hr => (Att.rwho_any a0 ad _ cap (z1.take 20) W rfl (by have := HY.out; omega) hr (HBd.out W hB)).mono fun e w' hq => ⟨hq.1, Lib.hid (hB.trans (hq.2.mono hB.size)), Lib.hid hq.2⟩)
  clear w1 hlen1 hlc0 hcm0 HRD0 HOK0 hBa HBd
  generalize z1.take 20 = y at *
  obtain ⟨want, hwant⟩ : ∃ want : Int, ((Att.whoN a0 y : Nat) : Int) = want := ⟨_, rfl⟩
  rw [hwant] at CT CR
  have hww : (want != want) = false := by simp
  have hwe : (want == want) = true := by simp
  clear hwant w0
  go_enter Try.func6, Try.ntmps6
  go_upto_region 2 with (at_builtin; refine Att.appP_step rfl _ _ rfl w.heap.size (some ⟨w.heap.size, 0, none⟩) 0 0 [] rfl HO.out a1 _ cap1 y rfl HE.out HRD.out HN.out (by have := HY.out; simp; omega) HBz.out ?_; intro l1 ad1 cap1' V1 hl1 ho1 hb1)
  have hl1e : l1 = y := by rw [hl1.out, List.nil_append]
  subst hl1e
  have HB1 := Lib.hid (HBa.out.trans hb1)
  have HO1 := Lib.hid ho1
  clear HO HRD HE HN HBz HBa hl1 ho1 hb1 hin1 hin2
  have C1 := Lib.hid (CR.out V1 ad1 cap1' HB1.out HO1.out.rd.1)
  clear CR
  go_wp2_with fail
  refine (C1.out).mono ?_; rintro e V2 ⟨rfl, HB2, HBs⟩
  have HO2 := Lib.hid (HO1.out.below HBs.out)
  have C2 := Lib.hid (CT.out V2 ad1 cap1' l1 (by have := HY.out; omega) HB2.out HO2.out.rd.1 (fun t ht => ht) (fun f => rfl))
  clear HBs HO1 HB1 C1
  go_wp2_with fail
  refine (C2.out).mono ?_; rintro e V3 ⟨rfl, HB3, HBs⟩
  have HO3 := Lib.hid (HO2.out.below HBs.out)
  clear HBs HO2 HB2 C2
  go_wp2_with (at_builtin; refine Att.twiceP_step (by rfl) _ _ rfl w.heap.size ad1 l1.length cap1' l1 rfl rfl HO3.out (by have := HY.out; omega) HB3.out.size ?_; intro l2 ad2 cap2 V4 hl2 hr2 ho4 hb4)
  have HB4 := Lib.hid (HB3.out.trans hb4)
  have HL2 : Hid (l2.length ≤ 40) := Lib.hid (by rw [hl2.out, List.length_append]; have := HY.out; omega)
  have C4 := Lib.hid (CT.out V4 ad2 cap2 l2 HL2.out HB4.out hr2 (fun t ht => by rw [hl2.out, List.mem_append] at ht; exact ht.elim id id) (fun f => by rw [hl2.out, List.any_append, Bool.or_self]))
  have HO4 := Lib.hid ho4
  clear hl2 hr2 ho4 hb4 HO3 HB3 HL2
  go_wp2_with fail
  refine (C4.out).mono ?_; rintro e V5 ⟨rfl, HB5, HBs⟩
  have HS5 := Lib.hid (HO4.out.below HBs.out).lst
  have HP5 := Lib.hid (List.Perm.refl l1)
  have HL5 : Hid (l1.length = l1.length) := Lib.hid rfl
  obtain ⟨n, hn⟩ : ∃ n, l1.length = n := ⟨_, rfl⟩
  have HY2 := HY.out
  rw [hn] at HY2
  have CT2 : Hid (∀ W ls, ls.Perm l1 → Below w.heap.size w W → Att.RdP W ad1 ls → Calls Try.prog 24 #[.int .i64 a0, .slice ad1 n cap1'] W fun e w' => e = .returned (.int .u64 want) ∧ Hid (Below w.heap.size w w')) := Lib.hid (fun W ls hp hB hr => by
    have hl := hp.length_eq
    rw [hn] at hl
    have h := CT.out W ad1 cap1' ls (by omega) hB hr (fun t ht => hp.mem_iff.1 ht) (fun f => Att.perm_any hp f)
    rw [hl] at h
    exact h.mono fun e w' hq => ⟨hq.1, hq.2.1⟩)
  clear HO4 HBs HB4 C4 CT HY HL5
  simp only [hn]
  have HN := Lib.hid hn
  clear hn
  go_wp2_with fail
  go_loopw [6, 7] (fun i j wr => ∃ (k : Nat) (ls : List Hed.Pk), k ≤ n ∧ i = .int .i64 k ∧ j = .int .i64 ((n : Int) - 1 - k) ∧ Hid (ls.Perm l1) ∧ Hid (Att.Lst w.heap.size wr ad1 ls) ∧ Hid (Below w.heap.size w wr)) (fun i _ _ => n - (intOf i).toNat)
  case atStart => exact ⟨0, l1, Nat.zero_le _, rfl, by simp, HP5, HS5, HB5⟩
  case round =>
    obtain ⟨k, ls, hk, rfl, rfl, HP, HS, HB⟩ := hrel
    have HLn : Hid (ls.length = n) := Lib.hid (by rw [HP.out.length_eq]; exact HN.out)
    by_cases hlt : (k : Int) < (n : Int) - 1 - k
    · obtain ⟨m, hm⟩ : ∃ m : Nat, (n : Int) - 1 - k = m := ⟨n - 1 - k, by omega⟩
      rw [hm]
      have hkm : k < m := by omega
      have hmn : m < n := by omega
      have hkn : k < n := by omega
      obtain ⟨g, rfl, hg, hlie⟩ := HS.out.2 (by rw [HLn.out]; omega)
      go_upto_region 8 with fail
      obtain ⟨W1, W2, vk, vm, HMm, HMk, HS1, HS2, HX⟩ := Att.swap_facts hlie HLn.out hkn hmn HP.out hg HB.out
      clear hlie HP HS HB HLn CT2 HS5 HP5 CW
      refine wp_region_noPanic ?_
      refine wp_region_any (by kernel_rfl) ?_
      try (change wpAny _ _ _ _ _ _ _ (World.drew _))
      refine wpAny_take (i := 0) (v := ?_) rfl (by kernel_rfl) (by kernel_rfl) (by kernel_rfl) (fun _ _ _ h => h) (Or.inl ⟨by kernel_rfl, ?_⟩) ?_
      rotate_left 1
      focus (intro w; go_simp; try with_reducible rfl)
      refine wpAny_take (i := 1) (v := ?_) rfl (by kernel_rfl) (by kernel_rfl) (by kernel_rfl) (fun _ _ _ h => h) (Or.inl ⟨by kernel_rfl, ?_⟩) ?_
      rotate_left 1
      focus (intro w; go_simp; try with_reducible rfl)
      refine wpAny_take (i := 2) (v := ?_) rfl (by kernel_rfl) (by kernel_rfl) (by kernel_rfl) (fun _ _ _ h => h) (Or.inl ⟨by kernel_rfl, ?_⟩) ?_
      rotate_left 1
      focus (intro w; go_simp; try with_reducible rfl)
      refine wpAny_take (i := 3) (v := ?_) rfl (by kernel_rfl) (by kernel_rfl) (by kernel_rfl) (fun _ _ _ h => h) (Or.inl ⟨by kernel_rfl, ?_⟩) ?_
      rotate_left 1
      focus (intro w; go_simp; try with_reducible rfl)
      refine wpAny_take (i := 4) (v := ?_) rfl (by kernel_rfl) (by kernel_rfl) (by kernel_rfl) (fun _ _ _ h => h) (Or.inl ⟨by kernel_rfl, ?_⟩) ?_
      rotate_left 1
      focus (intro w; go_simp; try with_reducible rfl)
      refine wpAny_take (i := 5) (v := ?_) rfl (by kernel_rfl) (by kernel_rfl) (by kernel_rfl) (fun _ _ _ h => h) (Or.inl ⟨by kernel_rfl, ?_⟩) ?_
      rotate_left 1
      focus (intro w; go_simp; try with_reducible rfl)
      refine wpAny_take (i := 6) (v := ?_) rfl (by kernel_rfl) (by kernel_rfl) (by kernel_rfl) (fun _ _ _ h => h) (Or.inl ⟨by kernel_rfl, ?_⟩) ?_
      rotate_left 1
      focus (intro w; go_simp; try with_reducible rfl)
      refine wpAny_take (i := 8) (v := ?_) rfl (by kernel_rfl) (by kernel_rfl) (by kernel_rfl) (fun _ _ _ h => h) (Or.inl ⟨by kernel_rfl, ?_⟩) ?_
      rotate_left 1
      focus (intro w; go_simp; try with_reducible rfl)
      refine wpAny_take (i := 9) (v := ?_) rfl (by kernel_rfl) (by kernel_rfl) (by kernel_rfl) (fun _ _ _ h => h) (Or.inl ⟨by kernel_rfl, ?_⟩) ?_
      rotate_left 1
      focus (intro w; go_simp; try with_reducible rfl)
      refine wpAny_take (i := 10) (v := ?_) rfl (by kernel_rfl) (by kernel_rfl) (by kernel_rfl) (fun _ _ _ h => h) (Or.inl ⟨by kernel_rfl, ?_⟩) ?_
      rotate_left 1
      focus (intro w; go_simp; try with_reducible rfl)
      refine wpAny_ready (rs := [7, 11]) (by kernel_rfl) (by simp) ?_
      refine AllReady.cons rfl (fun K hK => ?_) ?_
      · try simp only [Act.put, List.getElem_toArray, List.getElem_cons_succ, List.getElem_cons_zero, List.setIfInBounds_toArray, List.set_cons_zero, List.set_cons_succ]
        rw [if_pos (by rfl)]
        refine Att.load_step _ rfl g m vm ?_ HMm ?_
        · simp [Act.eval, Act.put]
        first
          | (refine hK _ _ ?_; clear hK K)
          | skip
        refine wpAny_ready (rs := [11]) (by kernel_rfl) (by simp) ?_
        refine AllReady.cons rfl (fun K hK => ?_) ?_
        · try simp only [Act.put, List.getElem_toArray, List.getElem_cons_succ, List.getElem_cons_zero, List.setIfInBounds_toArray, List.set_cons_zero, List.set_cons_succ]
          rw [if_pos (by rfl)]
          refine Att.load_step _ rfl g k vk ?_ HMk ?_
          · simp [Act.eval, Act.put]
          first
            | (refine hK _ _ ?_; clear hK K)
            | skip
          refine wpAny_take (i := 12) (v := ?_) rfl (by kernel_rfl) (by kernel_rfl) (by kernel_rfl) (fun _ _ _ h => h) (Or.inl ⟨by kernel_rfl, ?_⟩) ?_
          rotate_left 1
          focus (intro w; go_simp; try with_reducible rfl)
          refine wpAny_ready (rs := [13]) (by kernel_rfl) (by simp) ?_
          refine AllReady.cons rfl (fun K hK => ?_) ?_
          · try simp only [Act.put, List.getElem_toArray, List.getElem_cons_succ, List.getElem_cons_zero, List.setIfInBounds_toArray, List.set_cons_zero, List.set_cons_succ]
            rw [if_pos (by rfl)]
            refine Att.store_step _ _ rfl g k vm W1 ?_ ?_ HS1 ?_
            · simp [Act.eval, Act.put]
            · simp [Act.eval, Act.put]
            first
              | (refine hK _ _ ?_; clear hK K)
              | skip
            refine wpAny_take (i := 14) (v := ?_) rfl (by kernel_rfl) (by kernel_rfl) (by kernel_rfl) (fun _ _ _ h => h) (Or.inl ⟨by kernel_rfl, ?_⟩) ?_
            rotate_left 1
            focus (intro w; go_simp; try with_reducible rfl)
            refine wpAny_ready (rs := [15]) (by kernel_rfl) (by simp) ?_
            refine AllReady.cons rfl (fun K hK => ?_) ?_
            · try simp only [Act.put, List.getElem_toArray, List.getElem_cons_succ, List.getElem_cons_zero, List.setIfInBounds_toArray, List.set_cons_zero, List.set_cons_succ]
              rw [if_pos (by rfl)]
              refine Att.store_step _ _ rfl g m vk W2 ?_ ?_ HS2 ?_
              · simp [Act.eval, Act.put]
              · simp [Act.eval, Act.put]
              first
                | (refine hK _ _ ?_; clear hK K)
                | skip
              refine wpAny_done (by kernel_rfl) ?_ _
              refine NoPanic.normal ?_
              clear HMk HMm HS1 HS2
              try simp only [Act.put, List.getElem_toArray, List.getElem_cons_succ, List.getElem_cons_zero, List.setIfInBounds_toArray, List.set_cons_zero, List.set_cons_succ]
              go_wp2_with fail
              go_roundw
              case rel => exact ⟨k + 1, Att.swp ls k m, by omega, by go_num, by rw [show (n : Int) - 1 - ((k + 1 : Nat) : Int) = (m : Int) - 1 by omega], Lib.hid HX.out.1, Lib.hid HX.out.2.1, Lib.hid HX.out.2.2⟩
              case measure => simp [intOf]; omega
            exact AllReady.nil
          exact AllReady.nil
        exact AllReady.nil
      refine AllReady.cons rfl (fun K hK => ?_) ?_
      · try simp only [Act.put, List.getElem_toArray, List.getElem_cons_succ, List.getElem_cons_zero, List.setIfInBounds_toArray, List.set_cons_zero, List.set_cons_succ]
        rw [if_pos (by rfl)]
        refine Att.load_step _ rfl g k vk ?_ HMk ?_
        · simp [Act.eval, Act.put]
        first
          | (refine hK _ _ ?_; clear hK K)
          | skip
        refine wpAny_ready (rs := [7]) (by kernel_rfl) (by simp) ?_
        refine AllReady.cons rfl (fun K hK => ?_) ?_
        · try simp only [Act.put, List.getElem_toArray, List.getElem_cons_succ, List.getElem_cons_zero, List.setIfInBounds_toArray, List.set_cons_zero, List.set_cons_succ]
          rw [if_pos (by rfl)]
          refine Att.load_step _ rfl g m vm ?_ HMm ?_
          · simp [Act.eval, Act.put]
          first
            | (refine hK _ _ ?_; clear hK K)
            | skip
          refine wpAny_take (i := 12) (v := ?_) rfl (by kernel_rfl) (by kernel_rfl) (by kernel_rfl) (fun _ _ _ h => h) (Or.inl ⟨by kernel_rfl, ?_⟩) ?_
          rotate_left 1
          focus (intro w; go_simp; try with_reducible rfl)
          refine wpAny_ready (rs := [13]) (by kernel_rfl) (by simp) ?_
          refine AllReady.cons rfl (fun K hK => ?_) ?_
          · try simp only [Act.put, List.getElem_toArray, List.getElem_cons_succ, List.getElem_cons_zero, List.setIfInBounds_toArray, List.set_cons_zero, List.set_cons_succ]
            rw [if_pos (by rfl)]
            refine Att.store_step _ _ rfl g k vm W1 ?_ ?_ HS1 ?_
            · simp [Act.eval, Act.put]
            · simp [Act.eval, Act.put]
            first
              | (refine hK _ _ ?_; clear hK K)
              | skip
            refine wpAny_take (i := 14) (v := ?_) rfl (by kernel_rfl) (by kernel_rfl) (by kernel_rfl) (fun _ _ _ h => h) (Or.inl ⟨by kernel_rfl, ?_⟩) ?_
            rotate_left 1
            focus (intro w; go_simp; try with_reducible rfl)
            refine wpAny_ready (rs := [15]) (by kernel_rfl) (by simp) ?_
            refine AllReady.cons rfl (fun K hK => ?_) ?_
            · try simp only [Act.put, List.getElem_toArray, List.getElem_cons_succ, List.getElem_cons_zero, List.setIfInBounds_toArray, List.set_cons_zero, List.set_cons_succ]
              rw [if_pos (by rfl)]
              refine Att.store_step _ _ rfl g m vk W2 ?_ ?_ HS2 ?_
              · simp [Act.eval, Act.put]
              · simp [Act.eval, Act.put]
              first
                | (refine hK _ _ ?_; clear hK K)
                | skip
              refine wpAny_done (by kernel_rfl) ?_ _
              refine NoPanic.normal ?_
              clear HMk HMm HS1 HS2
              try simp only [Act.put, List.getElem_toArray, List.getElem_cons_succ, List.getElem_cons_zero, List.setIfInBounds_toArray, List.set_cons_zero, List.set_cons_succ]
              go_wp2_with fail
              go_roundw
              case rel => exact ⟨k + 1, Att.swp ls k m, by omega, by go_num, by rw [show (n : Int) - 1 - ((k + 1 : Nat) : Int) = (m : Int) - 1 by omega], Lib.hid HX.out.1, Lib.hid HX.out.2.1, Lib.hid HX.out.2.2⟩
              case measure => simp [intOf]; omega
            exact AllReady.nil
          exact AllReady.nil
        exact AllReady.nil
      exact AllReady.nil
    · have CTe := Lib.hid (CT2.out wr ls HP.out HB.out HS.out.1)
      clear CT2 HS HP HLn
      go_wp2_with fail
      refine (CTe.out).mono ?_; rintro e V8 ⟨rfl, HB8⟩
      have CWe := Lib.hid ((CW.out V8).mono fun e w' h => And.intro h.1 (HB8.out.trans (h.2.mono HB8.out.size)))
      go_wp2_with fail
      refine (CWe.out).mono ?_; rintro e V9 ⟨rfl, hB9⟩
      go_wp2_with fail
      go_ret
      exact ⟨rfl, hB9⟩

set_option maxRecDepth 100000 in
theorem lifted (os : Os) (started : os.Started) (H : Type) (enc : TypeId × Value → H) :
    ReturnsInHanded {} Try.checked os 6 .any (Rows.attendWhoSpec.pre6 enc Try.prog Try.f6 Rows.attendWhoRow.domain false) (Rows.attendWhoSpec.post enc Try.prog Try.f6 false true false false) := by
  refine returnsInHanded_of_change (C := Try.checked) own started (by kernel_rfl) Try.func6
    (ChangeSpec.witness6 (enc := enc) (C := Try.checked) false ⟨#[], #[.int .i64 0, .slice none 0 0], []⟩ 8 (by kernel_rfl) (by kernel_rfl) (by kernel_rfl) (by kernel_rfl)) ?_
  intro W base args ds gs before hval0 hW hcnd _
  have hval : ∀ (j : Nat) t v, Try.f6.params[j]? = some t → args[j]? = some v → Value.okWide Try.prog W .any base t v := hval0
  have hW' := hW
  obtain ⟨p, q, hA0, hV, rfl, hfz, hnd⟩ := hW
  have hA : DataW.TrodAll enc Try.prog W 0 (fun _ => true) true Try.f6.params.toList args.toList ds p := hA0
  rw [Try.params6] at hA hval
  obtain ⟨v0, vs0, d0, ds0, p0, q0, hargs, rfl, rfl, h0, r0⟩ := trodAll_cons hA
  obtain ⟨v1, vs1, d1, ds1, p1, q1, rfl, rfl, rfl, h1, r1⟩ := trodAll_cons r0
  obtain ⟨rfl, rfl, rfl⟩ := trodAll_nil r1
  obtain rfl : args = #[v0, v1] := by cases args; simp_all
  obtain ⟨rfl, rfl⟩ := trodVars_none hV
  obtain ⟨a0, rfl, rfl, rfl, w0⟩ := open_int Try.underlying2 (hval 0 2 v0 rfl rfl) h0
  obtain ⟨a1, len1, cap1, rfl⟩ := okWide_slice Try.underlying49 (hval 1 49 v1 rfl rfl)
  have k1 := h1
  have lt1 : ∀ x ∈ p1, x.block < W.heap.size := by obtain ⟨m, hm⟩ := k1; exact DataW.trod_lt m _ _ _ hm
  obtain ⟨z1, w1⟩ : ∃ zs, Att.Pks W W.heap.size a1 len1 cap1 zs := by
    obtain ⟨fuel, hf⟩ := h1
    exact Att.open_packets rfl (by simpa [Value.cells] using hf)
  clear hA0 hval0
  refine (walk a0 a1 len1 cap1 z1 W w0 w1).mono fun e W' ⟨he, bel⟩ => ?_
  subst he
  exact ⟨_, rfl, _, _, _, [], _, [], hW', trodAll_mk1 (shut_bool Try.underlying4 _), (trodAll_cons_mk (shut_int Try.underlying2 w0) (trodAll_cons_mk (Below.trod laidOut (by kernel_rfl) (of_decide_eq_true (by kernel_rfl)) k1 bel lt1) trodAll_mk0)), rfl, bel.frame _, fun h => by cases h⟩

theorem over : Rows.attendWhoRow.holds Try.pinned (OpenSpec.ofChange Rows.attendWhoSpec) :=
  OpenClaim.holds_of_wide 6 Try.f6 rfl rfl rfl rfl rfl rfl rfl ⟨rfl, rfl, rfl, rfl, rfl⟩ rfl rfl rfl rfl rfl (by kernel_rfl) Try.func6 (by kernel_rfl)
    (of_decide_eq_true (by kernel_rfl)) (by unfold Func.isWrapper; first | (rw [if_pos (by decide +kernel)]; kernel_rfl) | (rw [if_neg (by decide +kernel)]; exact ⟨rfl, rfl⟩))
    (fun os started H enc _ => lifted os started H enc)

theorem proved : Rows.AttendWhoSaid := over
#print axioms proved
end Go.Proofs.Ytepcbklokcfbfaa.lawAttendWho
