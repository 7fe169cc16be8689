/- Contracts of package nodes (layer 3) and of the document's own answers for it: sets of lists, with some nodes and without some: loops over slices that are only read. -/
import Derived.Test.YtcadmepfnafpmaaNodesA
namespace Go.Proofs.Ytcadmepfnafpmaa.Nodes
open Go.ChangeShapes Go.WideShapes Go.ChangeAt Go.RowKit
set_option linter.unusedVariables false

/-- A slice of integers that reads as a list. -/
def Rd (w : World) (ad : Option Addr) (zs : List Int) : Prop :=
  zs = [] ∨ ∃ b off, ad = some ⟨b, off, none⟩ ∧ ∀ i, i < zs.length → w.cell? ⟨b, off + i, none⟩ = some (.int .i64 (zs.getD i 0))
theorem Rd.at {w : World} {ad : Option Addr} {zs : List Int} (h : Rd w ad zs) {k : Nat} (hk : k < zs.length) : ∃ b off, ad = some ⟨b, off, none⟩ ∧ w.cell? ⟨b, off + k, none⟩ = some (.int .i64 (zs.getD k 0)) := by
  rcases h with rfl | ⟨b, off, e, hc⟩
  · simp at hk
  · exact ⟨b, off, e, hc k hk⟩
theorem take_succ' {zs : List Int} {k : Nat} (hk : k < zs.length) : zs.take (k + 1) = zs.take k ++ [zs.getD k 0] := by
  rw [List.take_succ_eq_append_getElem hk]; simp [hk]
theorem getD_mem {zs : List Int} {k : Nat} (hk : k < zs.length) : zs.getD k 0 ∈ zs := by
  have : zs.getD k 0 = zs[k] := by simp [hk]
  rw [this]; exact List.getElem_mem hk

theorem in_any (ad : Option Addr) (len cap : Nat) (zs : List Int) (x : Int) (w : World) (hlen : zs.length = len) (hm : len ≤ 9223372036854775807) (hr : Rd w ad zs) :
    Calls Try.prog 27 #[.slice ad len cap, .int .i64 x] w fun e w' => e = .returned (.bool (decide (x ∈ zs))) ∧ w = w' := by
  have HL := Lib.hid hlen
  have HR := Lib.hid hr
  clear hlen hr
  go_enter Try.func27, Try.ntmps27
  go_wp2
  go_loop [5] (fun i => ∃ k : Nat, k ≤ len ∧ i = .int .i64 k ∧ Hid (¬ x ∈ zs.take k)) (fun i => len - (intOf i).toNat)
  case atStart => exact ⟨0, Nat.zero_le _, rfl, Lib.hid (by simp)⟩
  case round =>
    obtain ⟨k, hk, rfl, hq⟩ := hrel
    by_cases hlt : k < len
    · obtain ⟨b, off, rfl, hc⟩ := HR.out.at (k := k) (by rw [HL.out]; exact hlt)
      have HS := Lib.hid (take_succ' (zs := zs) (k := k) (by rw [HL.out]; exact hlt))
      have HM := Lib.hid (getD_mem (zs := zs) (k := k) (by rw [HL.out]; exact hlt))
      generalize zs.getD k 0 = y at *
      by_cases hxy : y = x
      · subst hxy
        go_wp2_with fail
        go_ret
        exact ⟨ret_bool (decide_eq_true HM.out).symm, rfl⟩
      · have hne : (y == x) = false := beq_eq_false_iff_ne.2 hxy
        have HX := Lib.hid hxy
        clear hxy
        go_wp2_with fail
        go_round
        case rel => exact ⟨k + 1, by omega, by go_num, Lib.hid (by rw [HS.out, List.mem_append, List.mem_singleton]; rintro (h | h); exact hq.out h; exact HX.out h.symm)⟩
        case measure => simp [intOf]; omega
    · obtain rfl : k = len := by omega
      have HF := Lib.hid (show decide (x ∈ zs) = false by
        rw [decide_eq_false_iff_not]; have := hq.out; rwa [List.take_of_length_le (by rw [HL.out]; exact Nat.le_refl _)] at this)
      go_wp2_with fail
      go_ret
      exact ⟨ret_bool HF.out.symm, rfl⟩
theorem rof_any (ad : Option Addr) (len cap : Nat) (zs : List Int) (w : World) (hlen : zs.length = len) (hm : len ≤ 9223372036854775807) (hr : Rd w ad zs) :
    Calls Try.prog 17 #[.slice ad len cap] w fun e w' => e = .returned (.int .u64 (ofL zs)) ∧ w = w' := by
  have C := Lib.hid (fun (k : Nat) c => in_any ad len c zs (k : Int) w hlen hm hr)
  clear hlen hr
  go_enter Try.func17, Try.ntmps17
  go_wp2
  go_loop [3, 4] (fun s i => ∃ k q : Nat, k ≤ 64 ∧ i = .int .i64 k ∧ s = .int .u64 q ∧ Hid (q = sumTo (fun j => decide ((j : Int) ∈ zs)) k)) (fun _ i => 64 - (intOf i).toNat)
  case atStart => exact ⟨0, 0, Nat.zero_le _, rfl, rfl, Lib.hid rfl⟩
  case round =>
    obtain ⟨k, q, hk, rfl, rfl, hq⟩ := hrel
    by_cases hlt : k < 64
    · have HS := Lib.hid (show sumTo (fun j => decide ((j : Int) ∈ zs)) (k + 1) = sumTo (fun j => decide ((j : Int) ∈ zs)) k + if decide ((k : Int) ∈ zs) then 2 ^ k else 0 from rfl)
      have hb := sumTo_lt (fun j => decide ((j : Int) ∈ zs)) k
      rw [← hq.out] at hb
      have hp := Nat.pow_le_pow_right (n := 2) (by decide) (show k + 1 ≤ 64 by omega)
      rw [Nat.pow_succ] at hp
      have CK := Lib.hid (C.out k)
      by_cases hin : (k : Int) ∈ zs
      · rw [decide_eq_true hin] at CK HS
        rw [if_pos rfl] at HS
        have CP := Lib.hid (fun W => power_any k hlt W)
        clear hin
        obtain ⟨p, hp0⟩ : ∃ p, Hid (2 ^ k = p) := ⟨_, Lib.hid rfl⟩
        rw [hp0.out] at hb hp HS CP
        go_wp2_with fail
        refine (CK.out _).mono ?_; rintro e w' ⟨rfl, rfl⟩
        go_wp2_with fail
        refine (CP.out _).mono ?_; rintro e w' ⟨rfl, rfl⟩
        go_wp2_with fail
        go_round
        case rel => exact ⟨k + 1, q + p, by omega, by go_num, by go_num, Lib.hid (by rw [HS.out, hq.out])⟩
        case measure => simp [intOf]; omega
      · rw [decide_eq_false hin] at CK HS
        clear hin hb hp
        go_wp2_with fail
        refine (CK.out _).mono ?_; rintro e w' ⟨rfl, rfl⟩
        go_wp2_with fail
        go_round
        case rel => exact ⟨k + 1, q, by omega, by go_num, rfl, Lib.hid (by rw [HS.out, hq.out]; simp)⟩
        case measure => simp [intOf]; omega
    · obtain rfl : k = 64 := by omega
      go_wp2_with fail
      go_ret
      exact ⟨ret_int (by rw [hq.out]; rfl), rfl⟩
end Go.Proofs.Ytcadmepfnafpmaa.Nodes
