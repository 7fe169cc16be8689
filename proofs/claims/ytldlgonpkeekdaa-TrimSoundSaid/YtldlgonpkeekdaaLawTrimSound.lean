/- If no more of any readings are anything at all than are left out at each end, the middle lies between the least and the greatest of the others. -/
import Derived.Test.YtldlgonpkeekdaaRows
import Derived.WalkKit
import Derived.ProofKit
import Derived.OpenShut
import Derived.ShutString
import Derived.ChangeOld
import Derived.Below
import Derived.Test.YtldlgonpkeekdaaTrmE
namespace Go.Proofs.Ytldlgonpkeekdaa.lawTrimSound
open Go.ChangeShapes Go.WideShapes Go.ChangeAt Go.RowKit
open Go.ChangeMaps (open_string shut_string)
set_option linter.unusedVariables false

theorem own : ownKnob Try.prog.godebug = none := by kernel_rfl
theorem laidOut : laidOutB Try.prog = true := by kernel_rfl

/-- What the walk is told of a slice of integers that came in. -/
def IsRow (k : IntKind) (w : World) (a : Option Addr) (len cap : Nat) (zs : List Int) : Prop :=
  (a = none ∧ len = 0 ∧ cap = 0 ∧ zs = []) ∨
  ∃ x, a = some x ∧ len ≤ cap ∧ cap ≤ maxLen ∧ zs.length = cap ∧ (∀ i, i < zs.length → w.cell? (x.add i) = some (.int k (zs.getD i 0))) ∧ ∀ n ∈ zs, (Lit.int k n).wf = true

/-! The walk: the Go text returns true and writes nothing that was there. -/
set_option linter.unusedSimpArgs false in
set_option maxRecDepth 100000 in
set_option maxHeartbeats 4000000 in
theorem walk (a0 : Int) (a1 : Option Addr) (len1 cap1 : Nat) (z1 : List Int) (a2 : Option Addr) (len2 cap2 : Nat) (z2 : List Int) (w : World) (w0 : (Lit.int .u8 a0).wf = true) (w1 : IsRow .i64 w a1 len1 cap1 z1) (w2 : IsRow .i64 w a2 len2 cap2 z2) :
    Calls Try.prog 7 #[.int .u8 a0, .slice a1 len1 cap1, .slice a2 len2 cap2] w fun e w' => e = .returned (.bool true) ∧ Below w.heap.size w w' := by
  obtain ⟨f0, f1⟩ := bounds_u8 w0
  obtain ⟨l, hS, rfl, h64⟩ := I64s.row_sl w1
  obtain ⟨l', hS', rfl, h64'⟩ := I64s.row_sl w2
  have CG := Lib.hid (Trm.tcut_any a1 cap1 l w hS)
  have CB := Lib.hid (fun W (hB : Below w.heap.size w W) => Trm.tcut_any a2 cap2 l' W (hS'.below hB))
  have HN := Lib.hid (show (l.take 40).length ≤ 40 by rw [List.length_take]; omega)
  have HN' := Lib.hid (show (l'.take 40).length ≤ 40 by rw [List.length_take]; omega)
  have H64 := Lib.hid (h64.take 40)
  have H64' := Lib.hid (h64'.take 40)
  have HB1 : Hid (∀ W V, Below w.heap.size w W → Below W.heap.size W V → Below w.heap.size w V) := Lib.hid (fun W V h1 h2 => h1.trans (h2.mono h1.size))
  have C9 := Lib.hid (fun W => Trm.works24_any W)
  clear w0 w1 w2 h64 h64' hS hS'
  generalize l.take 40 = g at *
  generalize l'.take 40 = p at *
  have HLen : (p ++ g).length = g.length + p.length := by rw [List.length_append]; omega
  have C1 := Lib.hid (fun W => Trm.fault_nat (g.length + p.length) a0 (by have := HN.out; have := HN'.out; omega) W)
  have C2 := Lib.hid (fun W ad cap (h : I64s.Sl W ad cap g) => Trm.rtsort_any ad cap g W h (by have := HN.out; omega))
  have H64a : Hid (I64s.In64 (p ++ g)) := Lib.hid (fun x hx => (List.mem_append.1 hx).elim (H64'.out x) (H64.out x))
  have C3 : Hid (∀ W ad cap q, Hid (q = p ++ g) → I64s.Sl W ad cap q → Calls Try.prog 17 #[.int .i64 a0, .slice ad q.length cap] W fun e w' => e = .returned (.tuple #[.int .i64 (Trm.midV a0 (p ++ g)), .bool (Trm.midB (p ++ g))]) ∧ Below W.heap.size W w') := Lib.hid (fun W ad cap q hq h => by
    obtain rfl := hq.out
    exact Trm.tmid_any a0 ad cap (p ++ g) W h (by have := HN.out; have := HN'.out; omega) H64a.out)
  have HMB : Hid (0 < g.length → Trm.midB (p ++ g) = true) := Lib.hid (fun h => decide_eq_true (by omega))
  have HSo : Hid (0 < g.length → p.length ≤ Trm.fa (g.length + p.length) a0 → (Trm.srt g).getD 0 0 ≤ Trm.midV a0 (p ++ g) ∧ Trm.midV a0 (p ++ g) ≤ (Trm.srt g).getD (g.length - 1) 0) := Lib.hid (fun h0 hp =>
    Trm.mid_between a0 (p ++ g) _ _ (by omega) (Trm.trm_sound a0 p g _ _ (by rw [HLen]; exact hp) (fun x hx => Trm.srt_ends g hx)))
  have HSL := Lib.hid (Trm.srt_len g)
  have n1 : g.length ≤ 40 := HN.out
  have n2 : p.length ≤ 40 := HN'.out
  clear H64 H64' HN HN' HLen H64a
  unfold I64s.ListPost at *
  rw [HSL.out] at C2
  obtain ⟨n, hn⟩ : ∃ n, g.length = n := ⟨_, rfl⟩
  obtain ⟨k, hk⟩ : ∃ k, p.length = k := ⟨_, rfl⟩
  rw [hn] at CG C1 C2 HMB HSo HSL n1
  rw [hk] at CB C1 HSo n2
  have HGS : Hid (∀ (W : World) base ad cp, I64s.OwnL W base (.slice ad n cp) g → I64s.Sl W ad cp g) := Lib.hid (fun W base ad cp h => h.sl)
  have HPl := Lib.hid hk
  have HGl := Lib.hid hn
  clear hn hk
  generalize Trm.srt g = s at *
  generalize Trm.midV a0 (p ++ g) = v at *
  generalize Trm.midB (p ++ g) = b at *
  go_enter Try.func7, Try.ntmps7
  go_wp2_with fail
  refine (CG.out).mono ?_; rintro e w1 ⟨ad1, cp1, rfl, ho1, hB1⟩
  have S1 := HGS.out _ _ _ _ ho1
  have B1 := Lib.hid hB1
  have CB1 := Lib.hid (CB.out w1 B1.out)
  clear ho1 hB1 CB CG
  go_wp2_with fail
  refine (CB1.out).mono ?_; rintro e w2 ⟨ad2, cp2, rfl, ho2, hB2⟩
  have S2 := S1.below hB2
  have BE := Lib.hid (HB1.out _ _ B1.out hB2)
  have hsz : w1.heap.size ≤ w2.heap.size := hB2.size
  clear hB2 S1 CB1
  by_cases h0 : n = 0
  · subst h0
    clear S2 ho2
    go_wp2_with fail
    refine (C9.out _).mono ?_; rintro e w9 ⟨rfl, hB⟩
    have B9 := Lib.hid (BE.out.trans (hB.mono BE.out.size))
    clear hB
    go_wp2_with fail
    go_ret
    exact ⟨rfl, B9.out⟩
  · have h0' : ((n : Int) == 0) = false := beq_eq_false_iff_ne.2 (by omega)
    by_cases hf : k ≤ Trm.fa (n + k) a0
    · have HV := Lib.hid (HSo.out (by omega) hf)
      obtain rfl := HMB.out (by omega)
      generalize Trm.fa (n + k) a0 = t at *
      have d0 : decide ((t : Int) < (k : Int)) = false := decide_eq_false (by omega)
      go_wp2_with fail
      refine (C1.out _).mono ?_; rintro e w' ⟨rfl, rfl⟩
      go_wp2_with fail
      refine (C2.out w2 ad1 cp1 S2).mono ?_; rintro e w3 ⟨ad3, cp3, rfl, ho3, hB3⟩
      have S3 := S2.below hB3
      have ho2' := ho2.below hB3
      have B3 := Lib.hid (HB1.out _ _ BE.out hB3)
      have hsz3 : w1.heap.size ≤ w3.heap.size := Nat.le_trans hsz hB3.size
      have R3 := ho3.sl
      obtain ⟨p1, p2, p3⟩ := ho3.pos
      rw [HSL.out] at p1
      clear p2
      obtain ⟨g3, rfl, g31, g32⟩ := p3 (Nat.lt_of_lt_of_le (show 0 < n by omega) p1)
      obtain ⟨x, hx⟩ : ∃ x, s.getD 0 0 = x := ⟨_, rfl⟩
      obtain ⟨y, hy⟩ : ∃ y, s.getD (n - 1) 0 = y := ⟨_, rfl⟩
      rw [hx, hy] at HV
      have HC : Hid (∀ V : World, V.heap[g3]? = w3.heap[g3]? → V.cell? ⟨g3, 0, none⟩ = some (.int .i64 x) ∧ V.cell? ⟨g3, n - 1, none⟩ = some (.int .i64 y)) := Lib.hid (fun V hV => by
        obtain ⟨b0, o0, e0, c0⟩ := R3.at (k := 0) (by rw [HSL.out]; omega)
        obtain ⟨b1, o1, e1, c1⟩ := R3.at (k := n - 1) (by rw [HSL.out]; omega)
        simp only [Option.some.injEq, Addr.mk.injEq] at e0 e1
        obtain ⟨rfl, rfl, -⟩ := e0
        obtain ⟨rfl, rfl, -⟩ := e1
        have q0 := c0 w3 (Below.refl _ _)
        have q1 := c1 w3 (Below.refl _ _)
        rw [hx] at q0
        rw [hy] at q1
        rw [Nat.zero_add] at q0 q1
        unfold World.cell? at q0 q1 ⊢
        rw [hV]
        exact ⟨q0, q1⟩)
      have HNE : Hid (some g3 ≠ (Value.slice ad2 k cp2).ownBlock) := Lib.hid (fun e => by
        have := (ho2.blk e.symm).2
        omega)
      clear ho3 R3 p1 p3 hx hy hB3
      go_wp2_with (at_builtin; refine I64s.app_all rfl _ _ rfl w1.heap.size ad2 k cp2 p rfl ho2' ad1 n cp1 g rfl HGl.out.symm S3.rd S3.nil (by rw [HPl.out, HGl.out]; omega) hsz3 ?_; intro q ad4 cp4 w4 hq ho4 hB4 hK)
      have B4 := Lib.hid (B3.out.trans (hB4.mono B1.out.size))
      have h4 := hK g3 g32 (by omega) HNE.out
      have hsz4 : w3.heap.size ≤ w4.heap.size := hB4.size
      have Q4 := ho4.sl
      clear hB4 hK ho4 ho2' S3 HNE
      refine (C3.out w4 ad4 cp4 q hq Q4).mono ?_; rintro e w5 ⟨rfl, hB5⟩
      obtain ⟨c0, c1⟩ := HC.out w5 ((hB5.block g3 (by omega)).trans h4)
      have B5 := Lib.hid (HB1.out _ _ B4.out hB5)
      obtain ⟨v0, v1⟩ := HV.out
      have d1 : decide (x ≤ v) = true := decide_eq_true v0
      have d2 : decide (v ≤ y) = true := decide_eq_true v1
      obtain ⟨j, rfl⟩ : ∃ j, n = j + 1 := ⟨n - 1, by omega⟩
      rw [Nat.add_sub_cancel] at c1
      clear hB5 h4 HC HV Q4 BE v0 v1
      have BE := B5
      go_wp2_with fail
      refine (C9.out _).mono ?_; rintro e w9 ⟨rfl, hB⟩
      have B9 := Lib.hid (BE.out.trans (hB.mono BE.out.size))
      clear hB
      go_wp2_with fail
      go_ret
      exact ⟨rfl, B9.out⟩
    · generalize Trm.fa (n + k) a0 = t at *
      have d0 : decide ((t : Int) < (k : Int)) = true := decide_eq_true (by omega)
      clear S2 ho2
      go_wp2_with fail
      refine (C1.out _).mono ?_; rintro e w' ⟨rfl, rfl⟩
      go_wp2_with fail
      refine (C9.out _).mono ?_; rintro e w9 ⟨rfl, hB⟩
      have B9 := Lib.hid (BE.out.trans (hB.mono BE.out.size))
      clear hB
      go_wp2_with fail
      go_ret
      exact ⟨rfl, B9.out⟩

set_option maxRecDepth 100000 in
theorem lifted (os : Os) (started : os.Started) (H : Type) (enc : TypeId × Value → H) :
    ReturnsInHanded {} Try.checked os 7 .any (Rows.trimSoundSpec.pre6 enc Try.prog Try.f7 Rows.trimSoundRow.domain false) (Rows.trimSoundSpec.post enc Try.prog Try.f7 false true false false) := by
  refine returnsInHanded_of_change (C := Try.checked) own started (by kernel_rfl) Try.func7
    (ChangeSpec.witness6 (enc := enc) (C := Try.checked) false ⟨#[], #[.int .u8 0, .slice none 0 0, .slice none 0 0], []⟩ 8 (by kernel_rfl) (by kernel_rfl) (by kernel_rfl) (by kernel_rfl)) ?_
  intro W base args ds gs before hval0 hW hcnd _
  have hval : ∀ (j : Nat) t v, Try.f7.params[j]? = some t → args[j]? = some v → Value.okWide Try.prog W .any base t v := hval0
  have hW' := hW
  obtain ⟨p, q, hA0, hV, rfl, hfz, hnd⟩ := hW
  have hA : DataW.TrodAll enc Try.prog W 0 (fun _ => true) true Try.f7.params.toList args.toList ds p := hA0
  rw [Try.params7] at hA hval
  obtain ⟨v0, vs0, d0, ds0, p0, q0, hargs, rfl, rfl, h0, r0⟩ := trodAll_cons hA
  obtain ⟨v1, vs1, d1, ds1, p1, q1, rfl, rfl, rfl, h1, r1⟩ := trodAll_cons r0
  obtain ⟨v2, vs2, d2, ds2, p2, q2, rfl, rfl, rfl, h2, r2⟩ := trodAll_cons r1
  obtain ⟨rfl, rfl, rfl⟩ := trodAll_nil r2
  obtain rfl : args = #[v0, v1, v2] := by cases args; simp_all
  obtain ⟨rfl, rfl⟩ := trodVars_none hV
  obtain ⟨a0, rfl, rfl, rfl, w0⟩ := open_int Try.underlying5 (hval 0 5 v0 rfl rfl) h0
  obtain ⟨a1, len1, cap1, rfl⟩ := okWide_slice Try.underlying22 (hval 1 22 v1 rfl rfl)
  have k1 := h1
  have lt1 : ∀ x ∈ p1, x.block < W.heap.size := by obtain ⟨m, hm⟩ := k1; exact DataW.trod_lt m _ _ _ hm
  obtain ⟨z1, w1⟩ : ∃ zs, IsRow .i64 W a1 len1 cap1 zs := by
    obtain ⟨fuel, hf⟩ := h1
    rcases open_ints Try.underlying22 Try.underlying2 (by kernel_rfl) hf with ⟨hcs, _⟩ | ⟨x, l, c, zs, hcs, _, hl, hm, hz, _, hcell, hwz⟩
    · simp [Value.cells] at hcs
      obtain ⟨rfl, rfl, rfl⟩ := hcs
      exact ⟨[], .inl ⟨rfl, rfl, rfl, rfl⟩⟩
    · simp [Value.cells] at hcs
      obtain ⟨rfl, rfl, rfl⟩ := hcs
      exact ⟨zs, .inr ⟨_, rfl, hl, hm, by simpa using hz, hcell, hwz⟩⟩
  obtain ⟨a2, len2, cap2, rfl⟩ := okWide_slice Try.underlying22 (hval 2 22 v2 rfl rfl)
  have k2 := h2
  have lt2 : ∀ x ∈ p2, x.block < W.heap.size := by obtain ⟨m, hm⟩ := k2; exact DataW.trod_lt m _ _ _ hm
  obtain ⟨z2, w2⟩ : ∃ zs, IsRow .i64 W a2 len2 cap2 zs := by
    obtain ⟨fuel, hf⟩ := h2
    rcases open_ints Try.underlying22 Try.underlying2 (by kernel_rfl) hf with ⟨hcs, _⟩ | ⟨x, l, c, zs, hcs, _, hl, hm, hz, _, hcell, hwz⟩
    · simp [Value.cells] at hcs
      obtain ⟨rfl, rfl, rfl⟩ := hcs
      exact ⟨[], .inl ⟨rfl, rfl, rfl, rfl⟩⟩
    · simp [Value.cells] at hcs
      obtain ⟨rfl, rfl, rfl⟩ := hcs
      exact ⟨zs, .inr ⟨_, rfl, hl, hm, by simpa using hz, hcell, hwz⟩⟩
  clear hA0 hval0
  refine (walk a0 a1 len1 cap1 z1 a2 len2 cap2 z2 W w0 w1 w2).mono fun e W' ⟨he, bel⟩ => ?_
  subst he
  exact ⟨_, rfl, _, _, _, [], _, [], hW', trodAll_mk1 (shut_bool Try.underlying4 _), (trodAll_cons_mk (shut_int Try.underlying5 w0) (trodAll_cons_mk (Below.trod laidOut (by kernel_rfl) (of_decide_eq_true (by kernel_rfl)) k1 bel lt1) (trodAll_cons_mk (Below.trod laidOut (by kernel_rfl) (of_decide_eq_true (by kernel_rfl)) k2 bel lt2) trodAll_mk0))), rfl, bel.frame _, fun h => by cases h⟩

theorem over : Rows.trimSoundRow.holds Try.pinned (OpenSpec.ofChange Rows.trimSoundSpec) :=
  OpenClaim.holds_of_wide 7 Try.f7 rfl rfl rfl rfl rfl rfl rfl ⟨rfl, rfl, rfl, rfl, rfl⟩ rfl rfl rfl rfl rfl (by kernel_rfl) Try.func7 (by kernel_rfl)
    (of_decide_eq_true (by kernel_rfl)) (by unfold Func.isWrapper; first | (rw [if_pos (by decide +kernel)]; kernel_rfl) | (rw [if_neg (by decide +kernel)]; exact ⟨rfl, rfl⟩))
    (fun os started H enc _ => lifted os started H enc)

theorem proved : Rows.TrimSoundSaid := over
#print axioms proved
end Go.Proofs.Ytldlgonpkeekdaa.lawTrimSound
