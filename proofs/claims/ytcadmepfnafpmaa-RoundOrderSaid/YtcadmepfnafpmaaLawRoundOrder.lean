/- In whatever order any readings are noted, the round closes alike. -/
import Derived.Test.YtcadmepfnafpmaaRows
import Derived.WalkKit
import Derived.ProofKit
import Derived.OpenShut
import Derived.ShutString
import Derived.ChangeOld
import Derived.Below
import Derived.Test.YtcadmepfnafpmaaRndO
import Derived.Test.YtcadmepfnafpmaaIntK
namespace Go.Proofs.Ytcadmepfnafpmaa.lawRoundOrder
open Go.ChangeShapes Go.WideShapes Go.ChangeAt Go.RowKit
open Go.ChangeMaps (open_string shut_string)
set_option linter.unusedVariables false

theorem own : ownKnob Try.prog.godebug = none := by kernel_rfl
theorem laidOut : laidOutB Try.prog = true := by kernel_rfl

/-- What the walk is told of a slice of integers that came in. -/
def IsRow (k : IntKind) (w : World) (a : Option Addr) (len cap : Nat) (zs : List Int) : Prop :=
  (a = none ∧ len = 0 ∧ cap = 0 ∧ zs = []) ∨
  ∃ x, a = some x ∧ len ≤ cap ∧ cap ≤ maxLen ∧ zs.length = cap ∧ (∀ i, i < zs.length → w.cell? (x.add i) = some (.int k (zs.getD i 0))) ∧ ∀ n ∈ zs, (Lit.int k n).wf = true

/-! The walk: the Go text returns true and writes nothing that was there. -/
set_option linter.unusedSimpArgs false in
set_option maxRecDepth 100000 in
set_option maxHeartbeats 4000000 in
theorem walk (a0 : Option Addr) (len0 cap0 : Nat) (z0 : List Int) (a1 : Int) (a2 : Int) (w : World) (w0 : IsRow .i64 w a0 len0 cap0 z0) (w1 : (Lit.int .u8 a1).wf = true) (w2 : (Lit.int .i64 a2).wf = true) :
    Calls Try.prog 4 #[.slice a0 len0 cap0, .int .u8 a1, .int .i64 a2] w fun e w' => e = .returned (.bool true) ∧ Below w.heap.size w w' := by
  have hl1 := IntK.RowK.len w0
  have HLA := Lib.hid (fun i (hi : i < len0) => IntK.RowK.at w0 hi)
  obtain ⟨hl1, hl2⟩ := hl1
  unfold maxLen at hl2
  obtain ⟨m0, m1⟩ := bounds_u8 w1
  obtain ⟨T, rfl⟩ := Int.eq_ofNat_of_zero_le m0
  have hT : T ≤ 255 := by omega
  have C1 := Lib.hid (fun W => Rnd.rnew_any 1 W)
  have CN : Hid (∀ W mb L x d g, Rnd.in64 x → Rnd.in64 d → Rnd.RR W w.heap.size g 1 mb L → w.heap.size ≤ W.heap.size → Calls Try.prog 9 #[.pointer (some ⟨g, 0, none⟩), .int .i64 x, .int .i64 d] W (Rnd.NotePost W w.heap.size g 1 mb (Rnd.noteL L x d) (Rnd.noteE L x))) := Lib.hid (fun W mb L x d g hx hd h hB => Rnd.rnote_any hx hd W h hB)
  have C9 := Lib.hid (fun W => Rnd.works25_any W)
  unfold Rnd.NewPost at C1
  obtain ⟨n, hn, hnl, hn40⟩ : ∃ n : Nat, min (len0 : Int) 40 = (n : Int) ∧ n ≤ len0 ∧ n ≤ 40 := ⟨min len0 40, by omega, by omega, by omega⟩
  clear w0 w1 m0 m1
  go_enter Try.func4, Try.ntmps4
  go_wp2_with fail
  refine (C1.out _).mono ?_; rintro e w1 ⟨ga, rfl, ha, hB1⟩
  have HA1 := Lib.hid ha
  have HB1 := Lib.hid hB1
  clear ha hB1
  go_wp2_with fail
  refine (C1.out _).mono ?_; rintro e w2 ⟨gb, rfl, hb, hB2⟩
  have HX := Lib.hid (Rnd.both_start HA1.out HB1.out hb hB2)
  clear hb hB2 HA1 HB1 C1
  go_wp2_with fail
  go_loopw [10, 11] (fun i _ wr => ∃ k : Nat, k ≤ n ∧ i = .int .i64 k ∧ Hid (Rnd.Both w wr ga gb (Rnd.rowA z0 k) (Rnd.rowB z0 n T k))) (fun i _ _ => n - (intOf i).toNat)
  case atStart => exact ⟨0, Nat.zero_le _, rfl, HX⟩
  case round =>
    clear HX
    obtain ⟨k, hk, rfl, HX⟩ := hrel
    by_cases hlt : k < n
    · have d1 : decide ((k : Int) < (n : Int)) = true := decide_eq_true (by omega)
      obtain ⟨b, off, ha, hcl, hwf⟩ := HLA.out k (by omega)
      have hx := Rnd.ix_lt (T := T) hlt
      obtain ⟨b', off', ha', hcl', hwf'⟩ := HLA.out (Rnd.ix n T k) (by omega)
      rw [ha] at ha'
      simp only [Option.some.injEq, Addr.mk.injEq] at ha'
      obtain ⟨rfl, rfl, -⟩ := ha'
      subst ha
      obtain ⟨hmd, hmd2⟩ := Rnd.mod_ix (T := T) hlt
      have hsA := Rnd.rowA_step z0 (k := k) (by omega)
      have hsB := Rnd.rowB_step z0 (T := T) hlt (by omega)
      obtain ⟨ma, mb, HPp⟩ := HX.out
      have CA := Lib.hid (CN.out wr ma (Rnd.rowA z0 k) (k : Int) (z0.getD k 0) ga (by unfold Rnd.in64; omega) (bounds_i64 hwf) HPp.a HPp.below.size)
      rw [hsA] at CA
      have CB : Hid (∀ W ma', Rnd.Pair w W ga gb ma' mb (Rnd.rowA z0 (k + 1)) (Rnd.rowB z0 n T k) → Calls Try.prog 9 #[.pointer (some ⟨gb, 0, none⟩), .int .i64 (Rnd.ix n T k : Int), .int .i64 (z0.getD (Rnd.ix n T k) 0)] W (Rnd.NotePost W w.heap.size gb 1 mb (Rnd.rowB z0 n T (k + 1)) (Rnd.noteE (Rnd.rowB z0 n T k) (Rnd.ix n T k : Int)))) := Lib.hid (fun W ma' h => by
        have := CN.out W mb (Rnd.rowB z0 n T k) (Rnd.ix n T k : Int) (z0.getD (Rnd.ix n T k) 0) gb (by unfold Rnd.in64; omega) (bounds_i64 hwf') h.b h.below.size
        rwa [hsB] at this)
      have c1 := hcl wr HPp.below
      have HC2 : Hid (∀ W, Below w.heap.size w W → W.cell? ⟨b, off + Rnd.ix n T k, none⟩ = some (.int .i64 (z0.getD (Rnd.ix n T k) 0))) := Lib.hid hcl'
      have HPA : Hid (∀ e W', Rnd.NotePost wr w.heap.size ga 1 ma (Rnd.rowA z0 (k + 1)) (Rnd.noteE (Rnd.rowA z0 k) (k : Int)) e W' → ∃ er, e = .returned (.int .i64 er) ∧ ∃ ma', Rnd.Pair w W' ga gb ma' mb (Rnd.rowA z0 (k + 1)) (Rnd.rowB z0 n T k)) := Lib.hid (fun e W' hp => ⟨_, HPp.noteA hp⟩)
      have HPB : Hid (∀ ma' W e W', Rnd.Pair w W ga gb ma' mb (Rnd.rowA z0 (k + 1)) (Rnd.rowB z0 n T k) → Rnd.NotePost W w.heap.size gb 1 mb (Rnd.rowB z0 n T (k + 1)) (Rnd.noteE (Rnd.rowB z0 n T k) (Rnd.ix n T k : Int)) e W' → ∃ er, e = .returned (.int .i64 er) ∧ Rnd.Both w W' ga gb (Rnd.rowA z0 (k + 1)) (Rnd.rowB z0 n T (k + 1))) := Lib.hid (fun ma' W e W' h hp => by
        obtain ⟨e1, mb', h'⟩ := h.noteB hp
        exact ⟨_, e1, ma', mb', h'⟩)
      have nz : (n : Int) ≠ 0 := by omega
      clear hcl hcl' hwf hwf' hsA hsB HPp HX
      generalize z0.getD k 0 = x at *
      generalize z0.getD (Rnd.ix n T k) 0 = y at *
      generalize Rnd.ix n T k = j at *
      go_wp2_with fail
      refine (CA.out).mono ?_; intro e w1 hq
      obtain ⟨er, rfl, ma', hP1⟩ := HPA.out _ _ hq
      have HP1 := Lib.hid hP1
      have c2 := HC2.out w1 HP1.out.below
      have CB1 := Lib.hid (CB.out w1 ma' HP1.out)
      clear hq hP1 HPA CA c1 HC2 CB
      go_wp2_with fail
      refine (CB1.out).mono ?_; intro e w2 hq
      obtain ⟨er2, rfl, hB2⟩ := HPB.out _ _ _ _ HP1.out hq
      have HX2 := Lib.hid hB2
      clear hq hB2 HPB CB1 HP1 c2
      go_wp2_with fail
      go_roundw
      case rel => exact ⟨k + 1, by omega, by go_num, HX2⟩
      case measure => simp [intOf]; omega
    · have d1 : decide ((k : Int) < (n : Int)) = false := decide_eq_false (by omega)
      obtain rfl : k = n := by omega
      obtain ⟨ma, mb, HPp⟩ := HX.out
      have HPm := Lib.hid (Rnd.row_perm z0 k T)
      have HCl := Lib.hid (Rnd.close_perm a2 HPm.out)
      have HWh := Lib.hid (Rnd.who_perm HPm.out)
      have CA := Lib.hid (fun W (h : Rnd.RR W w.heap.size ga 1 ma (Rnd.rowA z0 k)) => Rnd.rclose_any a2 W h)
      have CB := Lib.hid (fun W (h : Rnd.RR W w.heap.size gb 1 mb (Rnd.rowB z0 k T k)) => Rnd.rclose_any a2 W h)
      have CU := Lib.hid (fun W (h : Rnd.RR W w.heap.size ga 1 ma (Rnd.rowA z0 k)) => Rnd.rwho_any W h)
      have CV := Lib.hid (fun W (h : Rnd.RR W w.heap.size gb 1 mb (Rnd.rowB z0 k T k)) => Rnd.rwho_any W h)
      rw [HCl.out.1, HCl.out.2] at CB
      rw [HWh.out] at CV
      have HBn : Rnd.closeB (Rnd.rowA z0 k) = decide (0 < k) := by unfold Rnd.closeB; rw [Rnd.rowA_len]
      rw [HBn] at CA CB
      have HQ := Lib.hid HPp
      have HL : Hid (∀ W W', Rnd.Pair w W ga gb ma mb (Rnd.rowA z0 k) (Rnd.rowB z0 k T k) → Below W.heap.size W W' → Rnd.Pair w W' ga gb ma mb (Rnd.rowA z0 k) (Rnd.rowB z0 k T k)) := Lib.hid (fun W W' h h' => h.later h')
      clear HX HPm HCl HWh HPp HBn
      generalize Rnd.closeV a2 (Rnd.rowA z0 k) = v at *
      generalize Rnd.whoR (Rnd.rowA z0 k) = q at *
      have e0 : (v == v) = true := beq_iff_eq.2 rfl
      have e2 : ((q : Int) == (q : Int)) = true := beq_iff_eq.2 rfl
      obtain ⟨t, ht⟩ : ∃ t : Bool, decide (0 < k) = t := ⟨_, rfl⟩
      rw [ht] at CA CB
      have e1 : (t == t) = true := beq_iff_eq.2 rfl
      cases t
      all_goals (
        first
          | (have hz : k = 0 := by have := of_decide_eq_false ht; omega)
            subst hz
          | (have hz : 0 < k := of_decide_eq_true ht)
        clear ht
        go_wp2_with fail
        refine (CA.out wr HQ.out.a).mono ?_; rintro e w1 ⟨rfl, hB1⟩
        have H1 := Lib.hid (HL.out _ _ HQ.out hB1)
        clear hB1
        go_wp2_with fail
        refine (CB.out w1 H1.out.b).mono ?_; rintro e w2 ⟨rfl, hB2⟩
        have H2 := Lib.hid (HL.out _ _ H1.out hB2)
        clear hB2
        go_wp2_with fail
        refine (CU.out w2 H2.out.a).mono ?_; rintro e w3 ⟨rfl, hB3⟩
        have H3 := Lib.hid (HL.out _ _ H2.out hB3)
        clear hB3
        go_wp2_with fail
        refine (CV.out w3 H3.out.b).mono ?_; rintro e w4 ⟨rfl, hB4⟩
        have BE := Lib.hid (HL.out _ _ H3.out hB4).below
        clear hB4 H1 H2 H3 HQ CA CB CU CV HL
        go_wp2_with fail
        refine (C9.out _).mono ?_; rintro e w9 ⟨rfl, hB⟩
        have B9 := Lib.hid (BE.out.trans (hB.mono BE.out.size))
        clear hB
        go_wp2_with fail
        go_ret
        exact ⟨rfl, B9.out⟩)


set_option maxRecDepth 100000 in
theorem lifted (os : Os) (started : os.Started) (H : Type) (enc : TypeId × Value → H) :
    ReturnsInHanded {} Try.checked os 4 .any (Rows.roundOrderSpec.pre6 enc Try.prog Try.f4 Rows.roundOrderRow.domain false) (Rows.roundOrderSpec.post enc Try.prog Try.f4 false true false false) := by
  refine returnsInHanded_of_change (C := Try.checked) own started (by kernel_rfl) Try.func4
    (ChangeSpec.witness6 (enc := enc) (C := Try.checked) false ⟨#[], #[.slice none 0 0, .int .u8 0, .int .i64 0], []⟩ 8 (by kernel_rfl) (by kernel_rfl) (by kernel_rfl) (by kernel_rfl)) ?_
  intro W base args ds gs before hval0 hW hcnd _
  have hval : ∀ (j : Nat) t v, Try.f4.params[j]? = some t → args[j]? = some v → Value.okWide Try.prog W .any base t v := hval0
  have hW' := hW
  obtain ⟨p, q, hA0, hV, rfl, hfz, hnd⟩ := hW
  have hA : DataW.TrodAll enc Try.prog W 0 (fun _ => true) true Try.f4.params.toList args.toList ds p := hA0
  rw [Try.params4] at hA hval
  obtain ⟨v0, vs0, d0, ds0, p0, q0, hargs, rfl, rfl, h0, r0⟩ := trodAll_cons hA
  obtain ⟨v1, vs1, d1, ds1, p1, q1, rfl, rfl, rfl, h1, r1⟩ := trodAll_cons r0
  obtain ⟨v2, vs2, d2, ds2, p2, q2, rfl, rfl, rfl, h2, r2⟩ := trodAll_cons r1
  obtain ⟨rfl, rfl, rfl⟩ := trodAll_nil r2
  obtain rfl : args = #[v0, v1, v2] := by cases args; simp_all
  obtain ⟨rfl, rfl⟩ := trodVars_none hV
  obtain ⟨a0, len0, cap0, rfl⟩ := okWide_slice Try.underlying43 (hval 0 43 v0 rfl rfl)
  have k0 := h0
  have lt0 : ∀ x ∈ p0, x.block < W.heap.size := by obtain ⟨m, hm⟩ := k0; exact DataW.trod_lt m _ _ _ hm
  obtain ⟨z0, w0⟩ : ∃ zs, IsRow .i64 W a0 len0 cap0 zs := by
    obtain ⟨fuel, hf⟩ := h0
    rcases open_ints Try.underlying43 Try.underlying2 (by kernel_rfl) hf with ⟨hcs, _⟩ | ⟨x, l, c, zs, hcs, _, hl, hm, hz, _, hcell, hwz⟩
    · simp [Value.cells] at hcs
      obtain ⟨rfl, rfl, rfl⟩ := hcs
      exact ⟨[], .inl ⟨rfl, rfl, rfl, rfl⟩⟩
    · simp [Value.cells] at hcs
      obtain ⟨rfl, rfl, rfl⟩ := hcs
      exact ⟨zs, .inr ⟨_, rfl, hl, hm, by simpa using hz, hcell, hwz⟩⟩
  obtain ⟨a1, rfl, rfl, rfl, w1⟩ := open_int Try.underlying5 (hval 1 5 v1 rfl rfl) h1
  obtain ⟨a2, rfl, rfl, rfl, w2⟩ := open_int Try.underlying3 (hval 2 3 v2 rfl rfl) h2
  clear hA0 hval0
  refine (walk a0 len0 cap0 z0 a1 a2 W w0 w1 w2).mono fun e W' ⟨he, bel⟩ => ?_
  subst he
  exact ⟨_, rfl, _, _, _, [], _, [], hW', trodAll_mk1 (shut_bool Try.underlying4 _), (trodAll_cons_mk (Below.trod laidOut (by kernel_rfl) (of_decide_eq_true (by kernel_rfl)) k0 bel lt0) (trodAll_cons_mk (shut_int Try.underlying5 w1) (trodAll_cons_mk (shut_int Try.underlying3 w2) trodAll_mk0))), rfl, bel.frame _, fun h => by cases h⟩

theorem over : Rows.roundOrderRow.holds Try.pinned (OpenSpec.ofChange Rows.roundOrderSpec) :=
  OpenClaim.holds_of_wide 4 Try.f4 rfl rfl rfl rfl rfl rfl rfl ⟨rfl, rfl, rfl, rfl, rfl⟩ rfl rfl rfl rfl rfl (by kernel_rfl) Try.func4 (by kernel_rfl)
    (of_decide_eq_true (by kernel_rfl)) (by unfold Func.isWrapper; first | (rw [if_pos (by decide +kernel)]; kernel_rfl) | (rw [if_neg (by decide +kernel)]; exact ⟨rfl, rfl⟩))
    (fun os started H enc _ => lifted os started H enc)

theorem proved : Rows.RoundOrderSaid := over
#print axioms proved
end Go.Proofs.Ytcadmepfnafpmaa.lawRoundOrder
