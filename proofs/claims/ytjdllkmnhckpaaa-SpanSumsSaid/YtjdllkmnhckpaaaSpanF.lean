/- The document's own sum of many (layer span). -/
import Derived.Test.YtjdllkmnhckpaaaSpanE
namespace Go.Proofs.Ytjdllkmnhckpaaa.Span
open Go.ChangeShapes Go.WideShapes Go.ChangeAt Go.RowKit
set_option linter.unusedVariables false

theorem rsum_fin (S hi lo q : Int) (e : hi * 4294967296 + lo = S) (hq : q = lo / 4294967296) (hf : -9223372036854775808 ≤ S ∧ S ≤ 9223372036854775807) :
    -2147483648 ≤ hi + q ∧ hi + q ≤ 2147483647 ∧ (hi + q) * 4294967296 + (lo - q * 4294967296) = S := by omega
theorem rsum_fout (S hi lo q : Int) (e : hi * 4294967296 + lo = S) (hq : q = lo / 4294967296) (hf : ¬ (-9223372036854775808 ≤ S ∧ S ≤ 9223372036854775807)) :
    hi + q < -2147483648 ∨ 2147483647 < hi + q := by omega

theorem rsum_any (b off len cap : Nat) (zs : List Int) (w : World) (hl : len ≤ zs.length) (hm : len ≤ 60)
    (hcell : ∀ i, i < zs.length → w.cell? ⟨b, off + i, none⟩ = some (.int .i64 (zs.getD i 0)))
    (hz : ∀ k, k < zs.length → -9223372036854775808 ≤ zs.getD k 0 ∧ zs.getD k 0 ≤ 9223372036854775807) :
    Calls Try.prog 23 #[.slice (some ⟨b, off, none⟩) len cap] w fun e w' => e = .returned (.tuple #[.int .i64 (fitV (sumK zs len)), .bool (fitB (sumK zs len))]) ∧ w = w' := by
  have HC := Lib.hid hcell
  have HZ := Lib.hid hz
  have RD : Hid (∀ (a : Int) (W : World), -9223372036854775808 ≤ a ∧ a ≤ 9223372036854775807 → Calls Try.prog 19 #[.int .i64 a, .int .i64 4294967296] W fun e w' => e = .returned (.tuple #[.int .i64 (a / 4294967296), .bool true]) ∧ W = w') :=
    Lib.hid (fun a W h => rdiv_pos a 4294967296 h (by omega) (by omega) W)
  clear hcell hz
  go_enter Try.func23, Try.ntmps23
  go_wp2
  go_loop [4, 5, 6] (fun hi lo i => ∃ (k : Nat) (h l : Int), k ≤ len ∧ i = .int .i64 k ∧ hi = .int .i64 h ∧ lo = .int .i64 l ∧ h * 4294967296 + l = sumK zs k ∧ 0 ≤ l ∧ l ≤ 4294967296 * (k : Int) ∧ -2147483648 * (k : Int) ≤ h ∧ h ≤ 2147483648 * (k : Int)) (fun _ _ i => len - (intOf i).toNat)
  case atStart => exact ⟨0, 0, 0, Nat.zero_le _, rfl, rfl, rfl, by rw [sumK_zero]; rfl, by omega, by omega, by omega, by omega⟩
  case round =>
    obtain ⟨k, h, l, hk, rfl, rfl, rfl, es, l0, l1, h0, h1⟩ := hrel
    have ES := Lib.hid es
    clear es
    by_cases hlt : k < len
    · have hc := HC.out k (by omega)
      have hx := HZ.out k (by omega)
      have HS := Lib.hid (sumK_succ zs k (by omega))
      generalize zs.getD k 0 = x at *
      have C := Lib.hid (fun W => RD.out x W hx)
      obtain ⟨hx1, hx2⟩ := hx
      obtain ⟨q, hq⟩ : ∃ q, Hid (x / 4294967296 = q) := ⟨_, Lib.hid rfl⟩
      rw [hq.out] at C
      have hq1 : -2147483648 ≤ q := by have := hq.out; omega
      have hq2 : q ≤ 2147483647 := by have := hq.out; omega
      have hr1 : 0 ≤ x - q * 4294967296 := by have := hq.out; omega
      have hr2 : x - q * 4294967296 ≤ 4294967295 := by have := hq.out; omega
      go_wp2_with fail
      refine (C.out _).mono ?_; rintro e w' ⟨rfl, rfl⟩
      go_wp2_with fail
      go_round
      case rel => exact ⟨k + 1, _, _, by omega, by go_num, rfl, rfl, by rw [HS.out, ← ES.out]; omega, by omega, by omega, by omega, by omega⟩
      case measure => simp [intOf]; omega
    · obtain rfl : k = len := by omega
      have C := Lib.hid (fun W => RD.out l W (by omega))
      obtain ⟨q, hq⟩ : ∃ q, Hid (l / 4294967296 = q) := ⟨_, Lib.hid rfl⟩
      rw [hq.out] at C
      have hq1 : 0 ≤ q := by have := hq.out; omega
      have hq2 : q ≤ k := by have := hq.out; omega
      have hr1 : 0 ≤ l - q * 4294967296 := by have := hq.out; omega
      have hr2 : l - q * 4294967296 ≤ 4294967295 := by have := hq.out; omega
      by_cases hf : -9223372036854775808 ≤ sumK zs k ∧ sumK zs k ≤ 9223372036854775807
      · have HF : Hid _ := Lib.hid (fit_yes _ hf)
        have HR := rsum_fin _ h l q ES.out hq.out.symm hf
        obtain ⟨g1, g2, g3⟩ := HR
        have G3 := Lib.hid g3
        clear hf g3
        go_wp2_with fail
        refine (C.out _).mono ?_; rintro e w' ⟨rfl, rfl⟩
        go_wp2_with fail
        go_ret2
        exact ⟨ret_ib (by rw [HF.out.1, G3.out]) HF.out.2.symm, rfl⟩
      · have HF : Hid _ := Lib.hid (fit_no _ hf)
        have HR := rsum_fout _ h l q ES.out hq.out.symm hf
        clear hf
        rcases HR with HR | HR
        · go_wp2_with fail
          refine (C.out _).mono ?_; rintro e w' ⟨rfl, rfl⟩
          go_wp2_with fail
          go_ret2
          exact ⟨ret_ib HF.out.1.symm HF.out.2.symm, rfl⟩
        · go_wp2_with fail
          refine (C.out _).mono ?_; rintro e w' ⟨rfl, rfl⟩
          go_wp2_with fail
          go_ret2
          exact ⟨ret_ib HF.out.1.symm HF.out.2.symm, rfl⟩

theorem rsum_nil (a : Option Addr) (cap : Nat) (w : World) :
    Calls Try.prog 23 #[.slice a 0 cap] w fun e w' => e = .returned (.tuple #[.int .i64 0, .bool true]) ∧ w = w' := by
  have RD : Hid (∀ (W : World), Calls Try.prog 19 #[.int .i64 0, .int .i64 4294967296] W fun e w' => e = .returned (.tuple #[.int .i64 0, .bool true]) ∧ W = w') :=
    Lib.hid (fun W => rdiv_pos 0 4294967296 (by omega) (by omega) (by omega) W)
  go_enter Try.func23, Try.ntmps23
  go_wp2
  refine wp_loop_rounds 1 ?_
  rw [rounds_succ]
  go_wp2_with fail
  refine (RD.out _).mono ?_; rintro e w' ⟨rfl, rfl⟩
  go_wp2_with fail
  go_ret2
  exact ⟨rfl, rfl⟩
end Go.Proofs.Ytjdllkmnhckpaaa.Span
