/- Contracts for layer key (6): is a key in a list, a rising list with one more; the law's own sameness of lists. -/
import Derived.Test.YtolcidilnmjlmaaKeyA
import Derived.Deep.QuietTactic
import Derived.BigQuiet
import Derived.OwnWalkIn
namespace Go.Proofs.Ytolcidilnmjlmaa.Key
open Go.ChangeShapes Go.WideShapes Go.ChangeAt Go.RowKit
set_option linter.unusedVariables false
theorem infoKey : (Try.prog.info? 34).map (fun i => (i.zero, i.size, i.bytes)) = some (some (.agg #[.int .i64 0, .int .i64 0, .int .u32 0]), 3, 24) := by kernel_rfl
def inK (l : List Ky) (x : Ky) : Bool := decide (x ∈ l)
theorem take_succ' {α : Type} [Inhabited α] {l : List α} {k : Nat} (h : k < l.length) : l.take (k + 1) = l.take k ++ [l.getD k default] := by
  rw [List.take_succ_eq_append_getElem h]; simp [List.getD, h]
theorem rin_any (ad : Option Addr) (len cap : Nat) (l : List Ky) (x : Ky) (w : World) (hlen : l.length = len) (hm : len ≤ 9223372036854775807) (hr : RdK w ad l) :
    Calls Try.prog 35 #[.slice ad len cap, kval x] w fun e w' => e = .returned (.bool (inK l x)) ∧ Below w.heap.size w w' := by
  have HL := Lib.hid hlen
  have hB0 : Below w.heap.size w (w.alloc (.cells #[.int .i64 x.1, .int .i64 x.2.1, .int .u32 x.2.2] 34)) := (Below.refl _ _).alloc (Nat.le_refl _) _
  have HR := Lib.hid hr
  have HB0 := Lib.hid hB0
  obtain ⟨w0, hw0⟩ : ∃ w0, Hid (w0 = w.alloc (.cells #[.int .i64 x.1, .int .i64 x.2.1, .int .u32 x.2.2] 34)) := ⟨_, Lib.hid rfl⟩
  have HX : Hid (Rw.At enc w0 w.heap.size 0 x) := Lib.hid (by rw [hw0.out]; exact Rw.At.box w x _ rfl)
  have hlt0 : w.heap.size < w0.heap.size := by rw [hw0.out, World.size_alloc]; omega
  rw [← hw0.out] at HB0
  have HV : Hid (x ∈ l ↔ inK l x = true) := Lib.hid (by unfold inK; simp)
  have HN : Hid ((∀ i, i < len → eqK (l.getD i default) x = false) → inK l x = false) := Lib.hid (fun h => by
    unfold inK
    rw [decide_eq_false_iff_not]
    intro hm
    obtain ⟨i, hi, e⟩ := List.getElem_of_mem hm
    have := h i (by omega)
    unfold eqK at this
    rw [decide_eq_false_iff_not] at this
    exact this (by simp [List.getD, hi, e]))
  have HY : Hid (∀ i, i < len → eqK (l.getD i default) x = true → inK l x = true) := Lib.hid (fun i hi h => by
    unfold eqK at h
    rw [decide_eq_true_iff] at h
    unfold inK
    rw [decide_eq_true_iff, ← h]
    simp [List.getD, show i < l.length by omega])
  generalize inK l x = r at *
  clear hlen hr hB0
  obtain ⟨p, q, s⟩ := x
  unfold kval
  go_enter Try.func35, Try.ntmps35
  go_wp2_with fail
  go_loopw [5] (fun i wr => ∃ k : Nat, k ≤ len ∧ i = .int .i64 k ∧ Hid (Below w0.heap.size w0 wr) ∧ Hid (∀ i, i < k → eqK (l.getD i default) (p, q, s) = false)) (fun i _ => len - (intOf i).toNat)
  case atStart => exact ⟨0, Nat.zero_le _, rfl, Lib.hid (by rw [hw0.out]; exact Below.refl _ _), Lib.hid (fun i hi => by omega)⟩
  case round =>
    obtain ⟨k, hk, rfl, hB, hno⟩ := hrel
    have HBw : Hid (Below w.heap.size w wr) := Lib.hid (HB0.out.trans (hB.out.mono HB0.out.size))
    by_cases hlt : k < len
    · obtain ⟨b, off, rfl, -, hc⟩ := (HR.out.below HBw.out).at_ (i := k) (by rw [HL.out]; exact hlt)
      obtain ⟨c0, c1, c2⟩ := at3 hc
      obtain ⟨d0, d1, d2⟩ := at3 (HX.out.below hB.out hlt0)
      have HE := Lib.hid (hno.out)
      have HYk := Lib.hid (HY.out k hlt)
      clear hc
      generalize hy : l.getD k default = y at *
      have hy' := Lib.hid hy
      obtain ⟨a, b', c⟩ := y
      simp only [Nat.zero_add] at d0 d1 d2 c0 c1 c2
      clear hy
      by_cases he : eqK (a, b', c) (p, q, s) = true
      · have hr' := HYk.out he
        subst hr'
        clear HN HV HE HYk hno
        go_wp2_with fail
        go_quiet (fail)
        go_wp2_with fail
        go_ret
        exact ⟨rfl, Own.below_drewN HBw.out _⟩
      · have he' : eqK (a, b', c) (p, q, s) = false := by simpa using he
        clear he HYk
        go_wp2_with fail
        go_quiet (fail)
        go_wp2_with fail
        go_roundw
        case rel =>
          refine ⟨k + 1, by omega, by go_num, Lib.hid (Own.below_drewN hB.out _), Lib.hid (fun i hi => ?_)⟩
          rcases Nat.lt_succ_iff_lt_or_eq.1 hi with h | rfl
          · exact HE.out i h
          · rw [hy'.out]; exact he'
        case measure => simp [intOf]; omega
    · obtain rfl : k = len := by omega
      have hr' := HN.out hno.out
      subst hr'
      clear HY HV hno
      go_wp2_with fail
      go_ret
      exact ⟨rfl, HBw.out⟩
end Go.Proofs.Ytolcidilnmjlmaa.Key
