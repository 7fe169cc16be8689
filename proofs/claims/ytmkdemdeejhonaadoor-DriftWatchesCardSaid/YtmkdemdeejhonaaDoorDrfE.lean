/- Contracts of package drift (layer 28): how many clocks are out of pace. -/
import Derived.Test.YtmkdemdeejhonaaDoorDrfB
import Derived.Test.YtmkdemdeejhonaaDoorQuiA
import Derived.Sort.QuietIn
namespace Go.Proofs.YtmkdemdeejhonaaDoor.Drf
open Go.RowKit Go.Shelf Go.ChangeShapes Go.WideShapes Go.ChangeAt
open Go.Proofs.YtmkdemdeejhonaaDoor.Rw
open Nodes (Tabs encV each_any each_stops_of boxed_kept mem mem_mem ret_int)
set_option linter.unusedVariables false
attribute [local go_sem] Oper.semAt_some
theorem wide_fn (f : FuncId) : Fence.wide.fn f = True := rfl
attribute [local go_sem] wide_fn
theorem late_set (a b : Nt) (slow fast : Int) (ht : ¬ kp b.tick - kp a.tick < 1) : lateN a b slow fast = lateL a b slow fast (mem (b.s &&& a.s)) := if_neg ht
theorem lateL_nil (a b : Nt) (slow fast : Int) : lateL a b slow fast [] = 0 := rfl
theorem lateL_le (a b : Nt) (slow fast : Int) (l : List Nat) : lateL a b slow fast l ≤ l.length := List.length_filter_le _ _
set_option maxRecDepth 100000 in
set_option maxHeartbeats 4000000 in
theorem late_in (N : Nat) (hN3 : 3 ≤ N) (g b : Nat) (a : Wt) (n : Nt) (hS : n.set < 18446744073709551616) (hS' : a.n.set < 18446744073709551616) (w : World) (h : WC w g a) (hb : NC w b n) (hT : Tabs w) :
    CallsIn Fence.wide N Tryd.prog 21 #[.pointer (some ⟨g, 0, none⟩), .pointer (some ⟨b, 0, none⟩)] w fun e w' => e = .returned (.int .i64 ((lateN a.n n a.slow a.fast : Nat) : Int)) ∧ Below w.heap.size w w' := by
  have h1 : 1 ≤ N := by omega
  have HH := Lib.hid h
  have HN := Lib.hid hb
  have hgl := h.lt
  have hbl := hb.lt
  have CE := Lib.hid (fun S W => each_any S W)
  have k1 := kp_bd n.tick
  have k2 := kp_bd a.n.tick
  have hwr : IntKind.i64.wrap (kp n.tick - kp a.n.tick) = kp n.tick - kp a.n.tick := by rw [IntKind.wrap_i64]; omega
  obtain ⟨tk, htk⟩ : ∃ tk, Hid (kp n.tick - kp a.n.tick = tk) := ⟨_, Lib.hid rfl⟩
  have HL0 : Hid (tk < 1 → lateN a.n n a.slow a.fast = 0) := Lib.hid (fun h => late_no (by rw [htk.out]; exact h))
  have HL1 : Hid (¬ tk < 1 → lateN a.n n a.slow a.fast = lateL a.n n a.slow a.fast (mem (n.s &&& a.n.s))) := Lib.hid (fun h => late_set _ _ _ _ (by rw [htk.out]; exact h))
  have htm : tk ≤ 1152921504606846976 := by rw [← htk.out]; omega
  have hss : (n.s &&& a.n.s) < 18446744073709551616 := Nodes.and_lt _ (s_lt hS)
  have hA := u64_and_nat n.s a.n.s (s_lt hS) (s_lt hS')
  have bG := (Boxed.new w 24 (.pointer (some ⟨g, 0, none⟩))).alloc (.cells #[.pointer (some ⟨b, 0, none⟩)] 61)
  have bN := Boxed.new (w.alloc (.cells #[.pointer (some ⟨g, 0, none⟩)] 24)) 61 (.pointer (some ⟨b, 0, none⟩))
  rw [World.size_alloc] at bN
  have hB0 : Below w.heap.size w ((w.alloc (.cells #[.pointer (some ⟨g, 0, none⟩)] 24)).alloc (.cells #[.pointer (some ⟨b, 0, none⟩)] 61)) := ((Below.refl _ _).alloc (Nat.le_refl _) _).alloc (by simp) _
  clear h hb
  refine callsIn_of_wp_marks Tryd.func21 rfl trivial ?_ rfl
  simp only [Tryd.ntmps21, List.size_toArray, List.length_cons, List.length_nil, Nat.reduceAdd, Nat.reduceSub, Array.replicate_succ, Array.replicate_zero, List.push_toArray, List.append_toArray, List.nil_append, List.cons_append]
  gi_wp2_with fail
  obtain ⟨W0, hW0⟩ : ∃ W0, (w.alloc (.cells #[.pointer (some ⟨g, 0, none⟩)] 24)).alloc (.cells #[.pointer (some ⟨b, 0, none⟩)] 61) = W0 := ⟨_, rfl⟩
  have hz0 : W0.heap.size = w.heap.size + 1 + 1 := by rw [← hW0]; simp
  rw [hW0] at bG bN hB0 ⊢
  clear hW0
  have cG := bG.cell
  have cN := bN.cell
  have cT := NC.tick (HN.out.below hB0)
  have cL := WC.last (HH.out.below hB0)
  have hmx : Tryd.prog.follows .mixedOrders = true := by kernel_rfl
  rename_i Q' K hKK
  have CONT : Hid (Exit.then K Q' .normal
      { tmps := #[.pointer (some ⟨g, 0, none⟩), .pointer (some ⟨b, 0, none⟩), .pointer (some ⟨w.heap.size, 0, none⟩), .pointer (some ⟨w.heap.size + 1, 0, none⟩), .int .i64 0, .pointer (some ⟨w.heap.size + 1 + 1, 0, none⟩), undef, undef,
          .pointer (some ⟨b, 0, none⟩), .pointer (some ⟨b, 0, none⟩), .pointer (some ⟨b, 0, none⟩), .int .i64 (kp n.tick), .pointer (some ⟨g, 0, none⟩), .pointer (some ⟨g, 0, none⟩), .pointer (some ⟨g, 3, none⟩), .pointer (some ⟨g, 3, none⟩), .int .i64 (kp a.n.tick), .int .i64 (kp n.tick - kp a.n.tick),
          undef, undef, undef, undef, undef, undef, undef, undef, undef, undef, undef, undef, undef, undef, undef, undef, undef, undef, undef, undef, undef, undef, undef, undef, undef, undef, undef, undef, undef, undef, undef, undef, undef, undef, undef], defers := [] }
      (W0.alloc (.cells #[.int .i64 (kp n.tick - kp a.n.tick)] 2)).drew) := by
    --CONT
    have bG1 : Boxed (W0.alloc (.cells #[.int .i64 (kp n.tick - kp a.n.tick)] 2)).drew w.heap.size 24 (.pointer (some ⟨g, 0, none⟩)) := bG.alloc (.cells #[.int .i64 (kp n.tick - kp a.n.tick)] 2)
    have bN1 : Boxed (W0.alloc (.cells #[.int .i64 (kp n.tick - kp a.n.tick)] 2)).drew (w.heap.size + 1) 61 (.pointer (some ⟨b, 0, none⟩)) := bN.alloc (.cells #[.int .i64 (kp n.tick - kp a.n.tick)] 2)
    have bT1 : Boxed (W0.alloc (.cells #[.int .i64 (kp n.tick - kp a.n.tick)] 2)).drew W0.heap.size 2 (.int .i64 (kp n.tick - kp a.n.tick)) := Boxed.new W0 2 (.int .i64 (kp n.tick - kp a.n.tick))
    have hB1 := (hB0.alloc (by omega) (.cells #[.int .i64 (kp n.tick - kp a.n.tick)] 2)).drew
    have hz1 : (W0.alloc (.cells #[.int .i64 (kp n.tick - kp a.n.tick)] 2)).drew.heap.size = w.heap.size + 1 + 1 + 1 := by show (W0.alloc _).heap.size = _; simp [hz0]
    rw [hz0] at bT1
    obtain ⟨W1, hW1⟩ : ∃ W1, (W0.alloc (.cells #[.int .i64 (kp n.tick - kp a.n.tick)] 2)).drew = W1 := ⟨_, rfl⟩
    rw [hW1] at bG1 bN1 bT1 hB1 hz1 ⊢
    rw [htk.out] at bT1 ⊢
    clear hW1 cG cN cT cL bG bN hwr hB0
    obtain ⟨kn, hkn⟩ : ∃ kn, Hid (kp n.tick = kn) := ⟨_, Lib.hid rfl⟩
    obtain ⟨ka, hka⟩ : ∃ ka, Hid (kp a.n.tick = ka) := ⟨_, Lib.hid rfl⟩
    rw [hkn.out, hka.out]
    have cT1 := bT1.cell
    refine hKK _ _ ?_
    clear hKK K
    by_cases hlt : tk < 1
    · have HL := Lib.hid (HL0.out hlt)
      have HBB := Lib.hid hB1
      clear HL0 HL1 CE hA hB1
      gi_wp2_with fail
      exact ⟨_, results_tmp rfl _ _ _, by rw [HL.out]; rfl, HBB.out⟩
    have hltb : decide (tk < 1) = false := decide_eq_false hlt
    have HL := Lib.hid (HL1.out (by omega))
    have htp : 1 ≤ tk := by omega
    clear HL0 HL1
    obtain ⟨sN, hsN⟩ : ∃ sN, n.s &&& a.n.s = sN := ⟨_, rfl⟩
    rw [hsN] at hA HL hss
    have hsN := Lib.hid hsN
    have bG2 := bG1.alloc (.cells #[.int .i64 0] 3)
    have bN2 := bN1.alloc (.cells #[.int .i64 0] 3)
    have bT2 := bT1.alloc (.cells #[.int .i64 0] 3)
    have bC2 := Boxed.new W1 3 (.int .i64 0)
    have hB2 := hB1.alloc (by omega) (.cells #[.int .i64 0] 3)
    rw [hz1] at bC2
    clear hlt
    gi_wp2_with fail
    obtain ⟨W2, hW2⟩ : ∃ W2, W1.alloc (.cells #[.int .i64 0] 3) = W2 := ⟨_, rfl⟩
    have hz2 : W2.heap.size = w.heap.size + 1 + 1 + 1 + 1 := by rw [← hW2]; simp [hz1]
    rw [hW2] at bG2 bN2 bT2 bC2 hB2 ⊢
    clear hW2 bG1 bN1 bT1 hB1 cT1 hz1 hz0
    rename_i K2 hKK2
    have CONT2 : Hid (Exit.then K2 Q' .normal
        { tmps := #[.pointer (some ⟨g, 0, none⟩), .pointer (some ⟨b, 0, none⟩), .pointer (some ⟨w.heap.size, 0, none⟩), .pointer (some ⟨w.heap.size + 1, 0, none⟩), .int .i64 0, .pointer (some ⟨w.heap.size + 1 + 1, 0, none⟩), .pointer (some ⟨w.heap.size + 1 + 1 + 1, 0, none⟩), undef, .pointer (some ⟨b, 0, none⟩), .pointer (some ⟨b, 0, none⟩), .pointer (some ⟨b, 0, none⟩), .int .i64 kn, .pointer (some ⟨g, 0, none⟩), .pointer (some ⟨g, 0, none⟩), .pointer (some ⟨g, 3, none⟩), .pointer (some ⟨g, 3, none⟩), .int .i64 ka, .int .i64 tk, .int .i64 tk, .bool false, .pointer (some ⟨b, 0, none⟩), .pointer (some ⟨b, 0, none⟩), .pointer (some ⟨b, 1, none⟩), .int .u64 (n.s : Int), .pointer (some ⟨g, 0, none⟩), .pointer (some ⟨g, 0, none⟩), .pointer (some ⟨g, 3, none⟩), .pointer (some ⟨g, 4, none⟩), .int .u64 (a.n.s : Int), .int .u64 (sN : Int), .func (.func 30) #[] #[.pointer (some ⟨w.heap.size + 1 + 1 + 1 + 1, 0, none⟩)], undef, undef, undef, undef, undef, undef, undef, undef, undef, undef, undef, undef, undef, undef, undef, undef, undef, undef, undef, undef, undef, undef], defers := [] }
        (W2.drew.alloc (.cells #[.int .u64 (sN : Int)] 33))) := by
      have bG3 : Boxed (W2.drew.alloc (.cells #[.int .u64 (sN : Int)] 33)) w.heap.size 24 (.pointer (some ⟨g, 0, none⟩)) := Blk.alloc (w := W2.drew) bG2 _
      have bN3 : Boxed (W2.drew.alloc (.cells #[.int .u64 (sN : Int)] 33)) (w.heap.size + 1) 61 (.pointer (some ⟨b, 0, none⟩)) := Blk.alloc (w := W2.drew) bN2 _
      have bT3 : Boxed (W2.drew.alloc (.cells #[.int .u64 (sN : Int)] 33)) (w.heap.size + 1 + 1) 2 (.int .i64 tk) := Blk.alloc (w := W2.drew) bT2 _
      have bC3 : Boxed (W2.drew.alloc (.cells #[.int .u64 (sN : Int)] 33)) (w.heap.size + 1 + 1 + 1) 3 (.int .i64 0) := Blk.alloc (w := W2.drew) bC2 _
      have bS : Boxed (W2.drew.alloc (.cells #[.int .u64 (sN : Int)] 33)) W2.drew.heap.size 33 (.int .u64 (sN : Int)) := Boxed.new W2.drew 33 (.int .u64 (sN : Int))
      rw [show W2.drew.heap.size = w.heap.size + 1 + 1 + 1 + 1 from hz2] at bS
      have hB3 : Below w.heap.size w (W2.drew.alloc (.cells #[.int .u64 (sN : Int)] 33)) := hB2.drew.alloc (show w.heap.size ≤ W2.heap.size by omega) _
      obtain ⟨V0, hV0⟩ : ∃ V0, W2.drew.alloc (.cells #[.int .u64 (sN : Int)] 33) = V0 := ⟨_, rfl⟩
      have hs3 : V0.heap.size = w.heap.size + 1 + 1 + 1 + 1 + 1 := by rw [← hV0]; rw [World.size_alloc]; show W2.heap.size + 1 = _; omega
      rw [hV0] at bG3 bN3 bT3 bC3 hB3 bS ⊢
      have hTL := hT.below hB3
      have HSN := Lib.hid (fun x (hx : x ∈ mem sN) => show x < 64 ∧ told n x = n.t x ∧ told a.n x = a.n.t x from by
        have h2 := mem_mem.1 hx
        rw [← hsN.out, Nat.testBit_and, Bool.and_eq_true] at h2
        exact ⟨h2.1, told_at (mem_mem.2 ⟨h2.1, h2.2.1⟩), told_at (mem_mem.2 ⟨h2.1, h2.2.2⟩)⟩)
      clear hV0 bG2 bN2 bT2 bC2 hB2 hz2
      refine hKK2 _ _ ?_
      clear hKK2 K2 hA
      gi_wp2_with fail
      rename_i K3 hKK3
      refine wpIn_rangeFunc_ownG rfl h1 (gf := 30) (lb := #[.pointer (some ⟨w.heap.size + 1 + 1 + 1 + 1, 0, none⟩)]) rfl trivial (enters_of Tryd.func30 (by kernel_rfl) rfl)
        (each_stops_of (α := In sN) Subtype.val (N - 1) (by omega) (w.heap.size + 1 + 1 + 1 + 1) w.heap.size sN hss (fun x hx => ⟨⟨x, hx⟩, rfl⟩) V0 (by omega) (by omega) bS.cell hTL hT.2) belowK_t (belowK_b (by omega)) (Below.refl _ _) (fun _ => rfl)
        (fun pre V => (Boxed V w.heap.size 24 (.pointer (some ⟨g, 0, none⟩)) ∧ Boxed V (w.heap.size + 1) 61 (.pointer (some ⟨b, 0, none⟩)) ∧ Boxed V (w.heap.size + 1 + 1) 2 (.int .i64 tk) ∧ Boxed V (w.heap.size + 1 + 1 + 1) 3 (.int .i64 ((lateL a.n n a.slow a.fast (valN pre) : Nat) : Int))) ∧ Below w.heap.size w V)
        (fun _ _ _ => False)
        (OwnFrom.and (Own.from (fun s A B row hs hg hr => ⟨boxed_kept hs.1 hg hr, boxed_kept hs.2.1 hg hr, boxed_kept hs.2.2.1 hg hr, boxed_kept hs.2.2.2 hg hr⟩) _) (ownFrom_below (Nat.le_refl _) (by omega)))
        (fun _ _ _ _ _ hs _ _ => hs)
        ⟨⟨bG3, bN3, bT3, bC3⟩, hB3⟩
        (fun x => { tmps := #[.pointer (some ⟨g, 0, none⟩), .pointer (some ⟨b, 0, none⟩), .pointer (some ⟨w.heap.size, 0, none⟩), .pointer (some ⟨w.heap.size + 1, 0, none⟩), .int .i64 0, .pointer (some ⟨w.heap.size + 1 + 1, 0, none⟩), .pointer (some ⟨w.heap.size + 1 + 1 + 1, 0, none⟩), .int .i64 ((x.1 : Nat) : Int), .pointer (some ⟨b, 0, none⟩), .pointer (some ⟨b, 0, none⟩), .pointer (some ⟨b, 0, none⟩), .int .i64 kn, .pointer (some ⟨g, 0, none⟩), .pointer (some ⟨g, 0, none⟩), .pointer (some ⟨g, 3, none⟩), .pointer (some ⟨g, 3, none⟩), .int .i64 ka, .int .i64 tk, .int .i64 tk, .bool false, .pointer (some ⟨b, 0, none⟩), .pointer (some ⟨b, 0, none⟩), .pointer (some ⟨b, 1, none⟩), .int .u64 (n.s : Int), .pointer (some ⟨g, 0, none⟩), .pointer (some ⟨g, 0, none⟩), .pointer (some ⟨g, 3, none⟩), .pointer (some ⟨g, 4, none⟩), .int .u64 (a.n.s : Int), .int .u64 (sN : Int), .func (.func 30) #[] #[.pointer (some ⟨w.heap.size + 1 + 1 + 1 + 1, 0, none⟩)], .int .i64 ((x.1 : Nat) : Int), undef, undef, undef, undef, undef, undef, undef, undef, undef, undef, undef, undef, undef, undef, undef, undef, undef, undef, undef, undef, undef], defers := [] }) ?assign ?body ?done ?stop
      case assign =>
        intro l' x V K hK
        unfold encV
        gi_wp2
        exact hK
      case body =>
        rintro l' pre x V ⟨⟨hG, hN, hT', hC⟩, hB⟩ hlt
        have hmx : Tryd.prog.follows .mixedOrders = true := by kernel_rfl
        obtain ⟨hx64, e1, e2⟩ := HSN.out x.1 x.2
        have cX := NC.told (HN.out.below hB) hx64
        have cY := WC.told (HH.out.below hB) hx64
        have cs := WC.slow (HH.out.below hB)
        have cf := WC.fast (HH.out.below hB)
        rw [e1] at cX
        rw [e2] at cY
        have t1 := n.t_bd x.1
        have t2 := a.n.t_bd x.1
        have EO := Lib.hid (show outB a.n n a.slow a.fast x.1 = badB a.slow a.fast tk (n.t x.1 - a.n.t x.1) from by unfold outB; rw [htk.out])
        have ES := Lib.hid (lateL_snoc a.n n a.slow a.fast (valN pre) x.1)
        have EV : Hid (valN (pre ++ [x]) = valN pre ++ [x.1]) := Lib.hid (by unfold valN; rw [List.map_append]; rfl)
        have hll := lateL_le a.n n a.slow a.fast (valN pre)
        have hl2 : (valN pre).length = pre.length := by unfold valN; rw [List.length_map]
        have hl3 := Nodes.mem_le sN
        rw [EO.out] at ES
        have CP := Lib.hid (fun k => show Calls Tryd.prog 27 #[.pointer (some ⟨g, 0, none⟩), .int .i64 (n.t x.1 - a.n.t x.1), .int .i64 tk] (V.drewN k) fun e w' => e = .returned (.bool (!badB a.slow a.fast tk (n.t x.1 - a.n.t x.1))) ∧ ∃ m, w' = V.drewN m from
          (pace_any g a (n.t x.1 - a.n.t x.1) tk htp htm (by omega) (by omega) (V.drewN k) cs cf).mono (fun e w' hw => by
            obtain ⟨h1, m, h2⟩ := hw
            exact ⟨h1, k + m, by rw [h2, World.drewN_drewN]⟩))
        have hwr : IntKind.i64.wrap (n.t x.1 - a.n.t x.1) = n.t x.1 - a.n.t x.1 := by rw [IntKind.wrap_i64]; omega
        have cG := hG.cell
        have cN := hN.cell
        have cT := hT'.cell
        have cC := hC.cell
        have fC := hC.frozen
        have hx64' : ((x.1 : Nat) : Int) < 64 := by omega
        have hx0 : (0 : Int) ≤ ((x.1 : Nat) : Int) := by omega
        have hfn : Fence.wide.fn 27 := trivial
        obtain ⟨c, hc⟩ : ∃ c, lateL a.n n a.slow a.fast (valN pre) = c := ⟨_, rfl⟩
        rw [hc] at ES hll cC hC
        have hwc : IntKind.i64.wrap ((c : Int) + 1) = ((c + 1 : Nat) : Int) := by rw [IntKind.wrap_i64]; omega
        have HF0 : Hid (badB a.slow a.fast tk (n.t x.1 - a.n.t x.1) = false → ∀ q, KeepsFrom V0.heap.size V (V.drewN q) ∧ Below w.heap.size V (V.drewN q) ∧ ((Boxed (V.drewN q) w.heap.size 24 (.pointer (some ⟨g, 0, none⟩)) ∧ Boxed (V.drewN q) (w.heap.size + 1) 61 (.pointer (some ⟨b, 0, none⟩)) ∧ Boxed (V.drewN q) (w.heap.size + 1 + 1) 2 (.int .i64 tk) ∧ Boxed (V.drewN q) (w.heap.size + 1 + 1 + 1) 3 (.int .i64 ((lateL a.n n a.slow a.fast (valN (pre ++ [x])) : Nat) : Int))) ∧ Below w.heap.size w (V.drewN q))) := Lib.hid (fun hb q => by
          have hb1 := Own.below_drewN (Below.refl w.heap.size V) q
          have k1 : KeepsOthers V (V.drewN q) := ⟨Nat.le_refl _, fun j o hj _ => hj⟩
          rw [EV.out, ES.out, hb]
          exact ⟨k1.from _, hb1, ⟨hG, hN, hT', hC⟩, hB.trans hb1⟩)
        have HF1 : Hid (badB a.slow a.fast tk (n.t x.1 - a.n.t x.1) = true → ∀ q, KeepsFrom V0.heap.size V ((V.drewN q).setCell ⟨w.heap.size + 1 + 1 + 1, 0, none⟩ (.int .i64 ((c + 1 : Nat) : Int))) ∧ Below w.heap.size V ((V.drewN q).setCell ⟨w.heap.size + 1 + 1 + 1, 0, none⟩ (.int .i64 ((c + 1 : Nat) : Int))) ∧ ((Boxed ((V.drewN q).setCell ⟨w.heap.size + 1 + 1 + 1, 0, none⟩ (.int .i64 ((c + 1 : Nat) : Int))) w.heap.size 24 (.pointer (some ⟨g, 0, none⟩)) ∧ Boxed ((V.drewN q).setCell ⟨w.heap.size + 1 + 1 + 1, 0, none⟩ (.int .i64 ((c + 1 : Nat) : Int))) (w.heap.size + 1) 61 (.pointer (some ⟨b, 0, none⟩)) ∧ Boxed ((V.drewN q).setCell ⟨w.heap.size + 1 + 1 + 1, 0, none⟩ (.int .i64 ((c + 1 : Nat) : Int))) (w.heap.size + 1 + 1) 2 (.int .i64 tk) ∧ Boxed ((V.drewN q).setCell ⟨w.heap.size + 1 + 1 + 1, 0, none⟩ (.int .i64 ((c + 1 : Nat) : Int))) (w.heap.size + 1 + 1 + 1) 3 (.int .i64 ((lateL a.n n a.slow a.fast (valN (pre ++ [x])) : Nat) : Int))) ∧ Below w.heap.size w ((V.drewN q).setCell ⟨w.heap.size + 1 + 1 + 1, 0, none⟩ (.int .i64 ((c + 1 : Nat) : Int))))) := Lib.hid (fun hb q => by
          have hb1 := (Own.below_drewN (Below.refl w.heap.size V) q).setCell (p := ⟨w.heap.size + 1 + 1 + 1, 0, none⟩) (show w.heap.size ≤ w.heap.size + 1 + 1 + 1 by omega) (.int .i64 ((c + 1 : Nat) : Int))
          have k1 : KeepsOthers V (V.drewN q) := ⟨Nat.le_refl _, fun j o hj _ => hj⟩
          have d1 : Boxed (V.drewN q) w.heap.size 24 (.pointer (some ⟨g, 0, none⟩)) := hG
          have d2 : Boxed (V.drewN q) (w.heap.size + 1) 61 (.pointer (some ⟨b, 0, none⟩)) := hN
          have d3 : Boxed (V.drewN q) (w.heap.size + 1 + 1) 2 (.int .i64 tk) := hT'
          have d4 : Boxed (V.drewN q) (w.heap.size + 1 + 1 + 1) 3 (.int .i64 (c : Int)) := hC
          rw [EV.out, ES.out, hb]
          exact ⟨(k1.trans (KeepsOthers.setCell _ _ _)).from _, hb1, ⟨d1.other (show w.heap.size ≠ w.heap.size + 1 + 1 + 1 by omega) _, d2.other (show w.heap.size + 1 ≠ w.heap.size + 1 + 1 + 1 by omega) _, d3.other (show w.heap.size + 1 + 1 ≠ w.heap.size + 1 + 1 + 1 by omega) _, d4.set _⟩, hB.trans hb1⟩)
        clear hG hN hT' hC hB EO ES EV HSN HH HN CE cs cf t1 t2 e1 e2 hll hl2 hl3 hc hlt
        generalize n.t x.1 = tx at *
        generalize a.n.t x.1 = ty at *
        cases hbad : badB a.slow a.fast tk (tx - ty) with
        | false =>
          have HF := Lib.hid (HF0.out hbad)
          rw [hbad] at CP
          clear HF0 HF1 hbad
          gi_wp2_with fail
          refine Qui.wpIn_region_quiet_round (by kernel_rfl) (by kernel_rfl) (by kernel_rfl) ?_
          repeat (gi_big_quiet_step ((refine ⟨fun hh => absurd hh Bool.false_ne_true, ?_⟩; gi_at_call 27; exact CallsIn.inRound l' (callsIn_wide.2 (CP.out _)))))
          refine wpQuietIn_nil ?_
          intro _ hw'; obtain ⟨nq, hw''⟩ := hw'; subst hw''
          gi_wp2
          exact HF.out _
        | true =>
          have HF := Lib.hid (HF1.out hbad)
          rw [hbad] at CP
          clear HF0 HF1 hbad
          gi_wp2_with fail
          refine Qui.wpIn_region_quiet_round (by kernel_rfl) (by kernel_rfl) (by kernel_rfl) ?_
          repeat (gi_big_quiet_step ((refine ⟨fun hh => absurd hh Bool.false_ne_true, ?_⟩; gi_at_call 27; exact CallsIn.inRound l' (callsIn_wide.2 (CP.out _)))))
          refine wpQuietIn_nil ?_
          intro _ hw'; obtain ⟨nq, hw''⟩ := hw'; subst hw''
          gi_wp2
          exact HF.out _
      case done =>
        rintro D ys V hD hys ⟨⟨hG, hN, hT', hC⟩, hB⟩ hK
        have HV : Hid (valN ys = mem sN) := Lib.hid hys
        rw [HV.out] at hC
        have cC := hC.cell
        refine hKK3 _ _ ?_
        gi_wp2
        refine ⟨by simp, .inl ⟨_, _, rfl, run_takeDeferred hK, ?_⟩⟩
        exact ⟨_, results_tmp rfl _ _ _, by rw [HL.out]; rfl, hB.trans (belowK_b (w := w) (Nat.le_refl _) V D _ _ (by omega) hK rfl rfl)⟩
      case stop =>
        rintro D c pre W _ _ h _
        exact h.elim
    refine wpIn_wide.2 ?_
    have cG2 := bG2.cell
    have cN2 := bN2.cell
    have cT2 := NC.set (HN.out.below hB2)
    have cL2 := WC.set (HH.out.below hB2)
    have hne0 := World.new_ne W2 ⟨w.heap.size, 0, none⟩ cG2
    have hne1 := World.new_ne W2 ⟨w.heap.size + 1, 0, none⟩ cN2
    have hne2 := World.new_ne W2 ⟨b, 1, none⟩ cT2
    have hne3 := World.new_ne W2 ⟨g, 4, none⟩ cL2
    have hhb : b ≠ w.heap.size + 1 + 1 + 1 + 1 := by omega
    have hhg : g ≠ w.heap.size + 1 + 1 + 1 + 1 := by omega
    clear hKK2 bG2 bN2 bT2 bC2 HL hB2
    go_region_held3 (fun W => W.cell? ⟨w.heap.size, 0, none⟩ = some (.pointer (some ⟨g, 0, none⟩)) ∧ W.cell? ⟨w.heap.size + 1, 0, none⟩ = some (.pointer (some ⟨b, 0, none⟩)) ∧ W.cell? ⟨b, 1, none⟩ = some (.int .u64 (n.s : Int)) ∧ W.cell? ⟨g, 4, none⟩ = some (.int .u64 (a.n.s : Int))) (go_keep) (first
      | (go_at_call 25; refine (CE.out _ _).mono ?_; rintro e w' ⟨rfl, rfl⟩))
    all_goals exact CONT2.out
    --END
  refine wpIn_wide.2 ?_
  have hne0 := World.new_ne W0 ⟨w.heap.size, 0, none⟩ cG
  have hne1 := World.new_ne W0 ⟨w.heap.size + 1, 0, none⟩ cN
  have hne2 := World.new_ne W0 ⟨b, 0, none⟩ cT
  have hne3 := World.new_ne W0 ⟨g, 3, none⟩ cL
  clear hKK bG bN CE HL0 HL1 hA
  go_region_held3 (fun W => W.cell? ⟨w.heap.size, 0, none⟩ = some (.pointer (some ⟨g, 0, none⟩)) ∧ W.cell? ⟨w.heap.size + 1, 0, none⟩ = some (.pointer (some ⟨b, 0, none⟩)) ∧ W.cell? ⟨b, 0, none⟩ = some (.int .i64 (kp n.tick)) ∧ W.cell? ⟨g, 3, none⟩ = some (.int .i64 (kp a.n.tick))) (go_keep) (fail)
  all_goals exact CONT.out
theorem late_any (g b : Nat) (a : Wt) (n : Nt) (hS : n.set < 18446744073709551616) (hS' : a.n.set < 18446744073709551616) (w : World) (h : WC w g a) (hb : NC w b n) (hT : Tabs w) :
    Calls Tryd.prog 21 #[.pointer (some ⟨g, 0, none⟩), .pointer (some ⟨b, 0, none⟩)] w fun e w' => e = .returned (.int .i64 ((lateN a.n n a.slow a.fast : Nat) : Int)) ∧ Below w.heap.size w w' := callsIn_wide.1 (late_in 3 (Nat.le_refl _) g b a n hS hS' w h hb hT)
end Go.Proofs.YtmkdemdeejhonaaDoor.Drf
