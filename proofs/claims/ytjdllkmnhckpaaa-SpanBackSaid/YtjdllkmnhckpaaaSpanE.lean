/- Contracts of package span (layer 1) and of the document's own answers for it: sums of many; the chapter's examples. -/
import Derived.Test.YtjdllkmnhckpaaaSpanD
import Derived.Laws.Externs
namespace Go.Proofs.Ytjdllkmnhckpaaa.Span
open Go.ChangeShapes Go.WideShapes Go.ChangeAt Go.RowKit
set_option linter.unusedVariables false

def sumK (zs : List Int) (k : Nat) : Int := (zs.take k).sum
theorem sumK_zero (zs : List Int) : sumK zs 0 = 0 := by simp [sumK]
theorem sumK_succ (zs : List Int) (k : Nat) (h : k < zs.length) : sumK zs (k + 1) = sumK zs k + zs.getD k 0 := by
  unfold sumK
  have e : zs.getD k 0 = zs[k] := by simp [h]
  rw [List.take_succ_eq_append_getElem h, e]
  simp only [List.sum_append, List.sum_cons, List.sum_nil, Int.add_zero]
theorem sumK_bd (zs : List Int) (hz : ∀ k, k < zs.length → -9223372036854775808 ≤ zs.getD k 0 ∧ zs.getD k 0 ≤ 9223372036854775807) (k : Nat) (hk : k ≤ zs.length) :
    -9223372036854775808 * (k : Int) ≤ sumK zs k ∧ sumK zs k ≤ 9223372036854775808 * (k : Int) := by
  induction k with
  | zero => simp [sumK]
  | succ k ih =>
    have h1 := ih (by omega)
    have h2 := hz k (by omega)
    rw [sumK_succ zs k (by omega)]
    omega

/-- One round of the sum in 128 bits. -/
theorem sum_step (S x : Int) (hx : -9223372036854775808 ≤ x ∧ x ≤ 9223372036854775807) :
    (S + x) % 18446744073709551616 = (S % 18446744073709551616 + IntKind.u64.wrap x) % 18446744073709551616 ∧
    (S + x) / 18446744073709551616 % 18446744073709551616 = (S / 18446744073709551616 % 18446744073709551616 + IntKind.u64.wrap (x / 9223372036854775808) + (S % 18446744073709551616 + IntKind.u64.wrap x) / 18446744073709551616) % 18446744073709551616 := by
  rw [IntKind.wrap_u64, IntKind.wrap_u64]
  by_cases h : x < 0
  · have e1 : x % 18446744073709551616 = x + 18446744073709551616 := by omega
    have e2 : x / 9223372036854775808 % 18446744073709551616 = 18446744073709551615 := by omega
    rw [e1, e2]
    constructor <;> omega
  · have e1 : x % 18446744073709551616 = x := by omega
    have e2 : x / 9223372036854775808 % 18446744073709551616 = 0 := by omega
    rw [e1, e2]
    constructor <;> omega

theorem add64_ex (x y c : Int) (hx : 0 ≤ x) (hx' : x ≤ 18446744073709551615) (hy : 0 ≤ y) (hy' : y ≤ 18446744073709551615) (hc0 : 0 ≤ c) (hc : c ≤ 1) :
    ∃ s r : Int, Hid (s = (x + y + c) % 18446744073709551616 ∧ r = (x + y + c) / 18446744073709551616) ∧ 0 ≤ s ∧ s ≤ 18446744073709551615 ∧ 0 ≤ r ∧ r ≤ 1 ∧
      ∀ w, (callFunc 35 #[.int .u64 x, .int .u64 y, .int .u64 c]).run Try.prog w = .ok (.value (.tuple #[.int .u64 s, .int .u64 r])) w := by
  refine ⟨_, _, Lib.hid ⟨rfl, rfl⟩, by omega, by omega, by omega, by omega, fun w => ?_⟩
  rw [run_callFunc_extern Try.func35 (by kernel_rfl) (by kernel_rfl) (by kernel_rfl) (e := add64Entry) (by kernel_rfl), run_add64 x y c hx hy hc0 hc]
  simp only [Result.andThen]

theorem sum_q (q : Int) (h1 : -4611686018427387904 ≤ q) (h2 : q ≤ 4611686018427387904) : wrap64 (q % 18446744073709551616) = q := by unfold wrap64; omega
theorem sum_r0 (r : Int) (h1 : 0 ≤ r) (h2 : r < 9223372036854775808) : wrap64 r / 9223372036854775808 = 0 := by unfold wrap64; omega
theorem sum_r1 (r : Int) (h1 : 9223372036854775808 ≤ r) (h2 : r < 18446744073709551616) : wrap64 r / 9223372036854775808 = -1 := by unfold wrap64; omega
theorem sum_end (S : Int) (h1 : -85070591730234615865843651857942052864 ≤ S) (h2 : S ≤ 85070591730234615865843651857942052864) :
    (wrap64 (S / 18446744073709551616 % 18446744073709551616) != wrap64 (S % 18446744073709551616) / 9223372036854775808) = !fitB S := by
  rw [sum_q (S / 18446744073709551616) (by omega) (by omega)]
  have hr0 : 0 ≤ S % 18446744073709551616 := by omega
  have hr1 : S % 18446744073709551616 < 18446744073709551616 := by omega
  have hS : S = 18446744073709551616 * (S / 18446744073709551616) + S % 18446744073709551616 := by omega
  generalize S / 18446744073709551616 = q at *
  generalize S % 18446744073709551616 = r at *
  unfold fitB
  rw [Bool.eq_iff_iff, bne_iff_ne]
  by_cases hr : r < 9223372036854775808
  · rw [sum_r0 r hr0 hr]
    by_cases h : -9223372036854775808 ≤ S ∧ S ≤ 9223372036854775807
    · simp only [h, and_self, decide_true, Bool.not_true, Bool.false_eq_true, iff_false, ne_eq, Decidable.not_not]
      omega
    · simp only [h, decide_false, Bool.not_false, iff_true]
      omega
  · rw [sum_r1 r (by omega) hr1]
    by_cases h : -9223372036854775808 ≤ S ∧ S ≤ 9223372036854775807
    · simp only [h, and_self, decide_true, Bool.not_true, Bool.false_eq_true, iff_false, ne_eq, Decidable.not_not]
      omega
    · simp only [h, decide_false, Bool.not_false, iff_true]
      omega
theorem sum_val (S : Int) (h : -9223372036854775808 ≤ S ∧ S ≤ 9223372036854775807) : wrap64 (S % 18446744073709551616) = S := by unfold wrap64; omega
theorem u64_wrap_bd (x : Int) : 0 ≤ IntKind.u64.wrap x ∧ IntKind.u64.wrap x ≤ 18446744073709551615 := by rw [IntKind.wrap_u64]; omega

theorem sum_any (b off len cap : Nat) (zs : List Int) (w : World) (hl : len ≤ zs.length) (hm : len ≤ 9223372036854775807)
    (hcell : ∀ i, i < zs.length → w.cell? ⟨b, off + i, none⟩ = some (.int .i64 (zs.getD i 0)))
    (hz : ∀ k, k < zs.length → -9223372036854775808 ≤ zs.getD k 0 ∧ zs.getD k 0 ≤ 9223372036854775807) :
    Calls Try.prog 22 #[.slice (some ⟨b, off, none⟩) len cap] w fun e w' => e = .returned (.tuple #[.int .i64 (fitV (sumK zs len)), .bool (fitB (sumK zs len))]) ∧ w = w' := by
  have HC := Lib.hid hcell
  have HZ := Lib.hid hz
  clear hcell hz
  go_enter Try.func22, Try.ntmps22
  go_wp2
  go_loop [4, 5, 12] (fun hi lo i => ∃ (k : Nat) (h l : Int), k ≤ len ∧ i = .int .i64 k ∧ hi = .int .u64 h ∧ lo = .int .u64 l ∧ h = sumK zs k / 18446744073709551616 % 18446744073709551616 ∧ l = sumK zs k % 18446744073709551616) (fun _ _ i => len - (intOf i).toNat)
  case atStart => exact ⟨0, 0, 0, Nat.zero_le _, rfl, rfl, rfl, by rw [sumK_zero]; rfl, by rw [sumK_zero]; rfl⟩
  case round =>
    obtain ⟨k, h, l, hk, rfl, rfl, rfl, eh, el⟩ := hrel
    have hh1 : 0 ≤ h := by omega
    have hh2 : h ≤ 18446744073709551615 := by omega
    have hl1 : 0 ≤ l := by omega
    have hl2 : l ≤ 18446744073709551615 := by omega
    have EH := Lib.hid eh
    have EL := Lib.hid el
    clear eh el
    by_cases hlt : k < len
    · have hc := HC.out k (by omega)
      have hx := HZ.out k (by omega)
      have HS := Lib.hid (sumK_succ zs k (by omega))
      generalize zs.getD k 0 = x at *
      have HT := Lib.hid (sum_step (sumK zs k) x hx)
      obtain ⟨hx1, hx2⟩ := hx
      have ux := u64_wrap_bd x
      have uy := u64_wrap_bd (x / 9223372036854775808)
      obtain ⟨s, r, HA, s0, s1, r0, r1, k1⟩ := add64_ex l (IntKind.u64.wrap x) 0 hl1 hl2 ux.1 ux.2 (by omega) (by omega)
      obtain ⟨t, q, HB, t0, t1, q0, q1, k2⟩ := add64_ex h (IntKind.u64.wrap (x / 9223372036854775808)) r hh1 hh2 uy.1 uy.2 r0 r1
      clear ux uy
      go_wp2
      go_round
      case rel =>
        refine ⟨k + 1, _, _, by omega, by go_num, rfl, rfl, ?_, ?_⟩
        · rw [HB.out.1, HS.out, HT.out.2, ← EH.out, ← EL.out, HA.out.2, Int.add_zero]
        · rw [HA.out.1, HS.out, HT.out.1, ← EL.out, Int.add_zero]
      case measure => simp [intOf]; omega
    · obtain rfl : k = len := by omega
      have HB := Lib.hid (sumK_bd zs HZ.out k (by omega))
      have hb1 : -85070591730234615865843651857942052864 ≤ sumK zs k := by have := HB.out; omega
      have hb2 : sumK zs k ≤ 85070591730234615865843651857942052864 := by have := HB.out; omega
      have HE := Lib.hid (sum_end _ hb1 hb2)
      clear hb1 hb2
      by_cases hf : -9223372036854775808 ≤ sumK zs k ∧ sumK zs k ≤ 9223372036854775807
      · have HF : Hid _ := Lib.hid (fit_yes _ hf)
        have HV : Hid (wrap64 l = sumK zs k) := Lib.hid (by rw [EL.out]; exact sum_val _ hf)
        have ht : (wrap64 h != wrap64 l / 9223372036854775808) = false := by rw [EH.out, EL.out, HE.out, HF.out.2]; rfl
        clear hf
        go_wp2
        go_ret2
        exact ⟨ret_ib (by rw [HV.out, HF.out.1]) HF.out.2.symm, rfl⟩
      · have HF : Hid _ := Lib.hid (fit_no _ hf)
        have ht : (wrap64 h != wrap64 l / 9223372036854775808) = true := by rw [EH.out, EL.out, HE.out, HF.out.2]; rfl
        clear hf
        go_wp2
        go_ret2
        exact ⟨ret_ib HF.out.1.symm HF.out.2.symm, rfl⟩

theorem sum_nil (a : Option Addr) (cap : Nat) (w : World) :
    Calls Try.prog 22 #[.slice a 0 cap] w fun e w' => e = .returned (.tuple #[.int .i64 0, .bool true]) ∧ w = w' := by
  go_enter Try.func22, Try.ntmps22
  go_wp2
  refine wp_loop_rounds 1 ?_
  rw [rounds_succ]
  go_wp2
  go_ret2
  exact ⟨rfl, rfl⟩

theorem works_add (w : World) : Calls Try.prog 11 #[.int .i64 9223372036854775807, .int .i64 1] w fun e w' => e = .returned (.tuple #[.int .i64 0, .bool false]) ∧ w = w' :=
  (add_any 9223372036854775807 1 (by omega) (by omega) w).mono fun e w' h => by
    have q := fit_no (9223372036854775807 + 1) (by omega)
    rw [q.1, q.2] at h
    exact h
theorem works_div (w : World) : Calls Try.prog 18 #[.int .i64 (-7), .int .i64 2] w fun e w' => e = .returned (.tuple #[.int .i64 (-4), .bool true]) ∧ ∃ n, w' = w.drewN n :=
  (div_any (-7) 2 (by omega) (by omega) w).mono fun e w' h => by
    have e1 : divV (-7) 2 = -4 := by decide
    have e2 : divB (-7) 2 = true := by decide
    rw [e1, e2] at h
    exact h
theorem works_sum (b : Nat) (w : World) (h0 : w.cell? ⟨b, 0, none⟩ = some (.int .i64 9223372036854775807)) (h1 : w.cell? ⟨b, 1, none⟩ = some (.int .i64 1)) (h2 : w.cell? ⟨b, 2, none⟩ = some (.int .i64 (-1))) :
    Calls Try.prog 22 #[.slice (some ⟨b, 0, none⟩) 3 3] w fun e w' => e = .returned (.tuple #[.int .i64 9223372036854775807, .bool true]) ∧ w = w' :=
  (sum_any b 0 3 3 [9223372036854775807, 1, -1] w (by decide) (by omega)
    (by intro i hi
        have : i = 0 ∨ i = 1 ∨ i = 2 := by simp at hi; omega
        rcases this with rfl | rfl | rfl
        · exact h0
        · exact h1
        · exact h2)
    (by intro i hi
        have : i = 0 ∨ i = 1 ∨ i = 2 := by simp at hi; omega
        rcases this with rfl | rfl | rfl <;> decide)).mono fun e w' h => by
    have e0 : sumK [9223372036854775807, 1, -1] 3 = 9223372036854775807 := by decide
    have q := fit_yes (sumK [9223372036854775807, 1, -1] 3) (by rw [e0]; omega)
    rw [q.1, q.2, e0] at h
    exact h
theorem works_mid (w : World) : Calls Try.prog 24 #[.int .i64 (-3), .int .i64 0] w fun e w' => e = .returned (.int .i64 (-2)) ∧ w = w' :=
  mid_any (-3) 0 (by omega) (by omega) w

theorem works_any (w : World) :
    Calls Try.prog 15 #[] w fun e w' => e = .returned (.bool true) ∧ Below w.heap.size w w' := by
  go_enter Try.func15, Try.ntmps15
  go_wp2_with fail
  refine (works_add _).mono ?_; rintro e w' ⟨rfl, rfl⟩
  go_wp2_with fail
  refine (works_div _).mono ?_; rintro e w' ⟨rfl, n, rfl⟩
  go_wp2_with fail
  refine (works_sum _ _ (World.cell?_alloc_at _ _ _ _ rfl) (World.cell?_alloc_at _ _ _ _ rfl) (World.cell?_alloc_at _ _ _ _ rfl)).mono ?_; rintro e w' ⟨rfl, rfl⟩
  go_wp2_with fail
  refine (works_mid _).mono ?_; rintro e w' ⟨rfl, rfl⟩
  go_wp2_with fail
  go_ret
  exact ⟨rfl, (below_drewN (Below.refl _ _) _).alloc (Nat.le_refl _) _⟩

end Go.Proofs.Ytjdllkmnhckpaaa.Span
