/- What layer 23's law plays: a trip's bounds; by how much a clock goes on. -/
import Derived.Test.YtecgohdpdkpeoaaRdgB
import Derived.Test.YtecgohdpdkpeoaaRdgV
import Derived.Test.YtecgohdpdkpeoaaQuiB
import Derived.Deep.Cut
import Derived.Deep.CutRange
import Derived.BigQuiet
import Derived.Handy
namespace Go.Proofs.Ytecgohdpdkpeoaa.Rdg
open Go.ChangeShapes Go.WideShapes Go.ChangeAt Go.RowKit Go.Deep
set_option linter.unusedVariables false
set_option linter.unusedSimpArgs false
/-- What bounds tells. -/
def BdPost (a : Tr) (w : World) (e : Ending) (w' : World) : Prop := ∃ x y : Int, 0 ≤ x ∧ x ≤ y ∧ y ≤ 8 ∧ e = .returned (.tuple #[.int .i64 x, .int .i64 y, .int .i64 (a.rho % 65), .int .i64 (a.slew + 1)]) ∧ Below w.heap.size w w'
set_option maxRecDepth 100000 in
set_option maxHeartbeats 1000000 in
theorem bounds_any (a : Tr) (w : World) (h0 : 0 ≤ a.dmin ∧ a.dmin ≤ 255) (h1 : 0 ≤ a.dmax ∧ a.dmax ≤ 255) (h2 : 0 ≤ a.rho ∧ a.rho ≤ 255) (h3 : 0 ≤ a.slew ∧ a.slew ≤ 255) :
    Calls Try.prog 15 #[trval a] w (BdPost a w) := by
  obtain ⟨w0', hw0⟩ : ∃ v, Hid (v = w.alloc (.cells (trcells a) 34)) := ⟨_, Lib.hid rfl⟩
  obtain ⟨hB0, hX⟩ := tr_box w w0' a hw0.out
  have HB0 := Lib.hid hB0
  have HX := Lib.hid hX
  clear hB0 hX
  obtain ⟨k0, k1⟩ := h0
  obtain ⟨k2, k3⟩ := h1
  obtain ⟨k4, k5⟩ := h2
  obtain ⟨k6, k7⟩ := h3
  unfold trval
  unfold trcells at *
  obtain ⟨d0, d1, rho, slew, there, back, oa, ol, oc, os, ta, tl, tc, ts, sent, val⟩ := a
  simp only at *
  go_enter Try.func15, Try.ntmps15
  go_upto_region 1 with fail
  rw [← hw0.out]
  obtain ⟨c0, c1, c2, c3, -⟩ := HX.out w0' (Below.refl _ _)
  go_quiet (fail)
  obtain ⟨x0, hx0⟩ : ∃ v, d0 % 9 = v := ⟨_, rfl⟩
  obtain ⟨y0, hy0⟩ : ∃ v, d1 % 9 = v := ⟨_, rfl⟩
  have hx1 : 0 ≤ x0 ∧ x0 ≤ 8 := by omega
  have hy1 : 0 ≤ y0 ∧ y0 ≤ 8 := by omega
  rw [hx0, hy0]
  clear hx0 hy0 k0 k1 k2 k3
  have HBQ : Hid (Below w0'.heap.size w0' (w0'.drewN nq)) := Lib.hid ⟨rfl, rfl, rfl, Nat.le_refl _, fun _ _ => rfl⟩
  clear c0 c1 c2 c3
  generalize w0'.drewN nq = w1 at *
  obtain ⟨-, -, c2, c3, -⟩ := HX.out w1 HBQ.out
  have HBR := Lib.hid (HB0.out.trans (HBQ.out.mono HB0.out.size))
  by_cases hxy : y0 < x0
  · go_upto_region 4 with fail
    go_quiet (fail)
    have HF : Hid (BdPost ⟨d0, d1, rho, slew, there, back, oa, ol, oc, os, ta, tl, tc, ts, sent, val⟩ w (.returned (.tuple #[.int .i64 y0, .int .i64 x0, .int .i64 (rho % 65), .int .i64 (slew + 1)])) (w1.drewN nq)) := Lib.hid ⟨y0, x0, by omega, by omega, by omega, rfl, HBR.out.trans ⟨rfl, rfl, rfl, Nat.le_refl _, fun _ _ => rfl⟩⟩
    go_wp2_with fail
    refine bodyPost_ret (v := .tuple #[.int .i64 y0, .int .i64 x0, .int .i64 (rho % 65), .int .i64 (slew + 1)]) (by simp [results, Try.results15, go_sem]) rfl HF.out
  · go_upto_region 4 with fail
    go_quiet (fail)
    have HF : Hid (BdPost ⟨d0, d1, rho, slew, there, back, oa, ol, oc, os, ta, tl, tc, ts, sent, val⟩ w (.returned (.tuple #[.int .i64 x0, .int .i64 y0, .int .i64 (rho % 65), .int .i64 (slew + 1)])) (w1.drewN nq)) := Lib.hid ⟨x0, y0, by omega, by omega, by omega, rfl, HBR.out.trans ⟨rfl, rfl, rfl, Nat.le_refl _, fun _ _ => rfl⟩⟩
    go_wp2_with fail
    refine bodyPost_ret (v := .tuple #[.int .i64 x0, .int .i64 y0, .int .i64 (rho % 65), .int .i64 (slew + 1)]) (by simp [results, Try.results15, go_sem]) rfl HF.out
/-- By how much a clock goes on in some ticks. -/
def gone (wl : Nat) (zs : List Int) (f : Nat) (m : Int) : Nat → Int
  | 0 => 0
  | j + 1 => gone wl zs f m j + (1024 + if f + j < wl then (zs.getD (f + j) 0).tmod (m + 1) else 0)
theorem gone_bd (wl : Nat) (zs : List Int) (f : Nat) {m : Int} (hm0 : 0 ≤ m) (hm1 : m ≤ 400) : ∀ n : Nat, 0 ≤ gone wl zs f m n ∧ gone wl zs f m n ≤ 2000 * (n : Int) ∧ 1024 * (n : Int) - m * n ≤ gone wl zs f m n ∧ gone wl zs f m n ≤ 1024 * (n : Int) + m * n
  | 0 => by simp [gone]
  | j + 1 => by
    obtain ⟨h0, h1, h2, h3⟩ := gone_bd wl zs f hm0 hm1 j
    unfold gone
    generalize gone wl zs f m j = G at *
    obtain ⟨d, hd, d0, d1⟩ : ∃ d, (if f + j < wl then (zs.getD (f + j) 0).tmod (m + 1) else 0) = d ∧ -m ≤ d ∧ d ≤ m := by
      refine ⟨_, rfl, ?_⟩
      by_cases h : f + j < wl
      · rw [if_pos h]; exact IntK.tmod_two _ m hm0
      · rw [if_neg h]; omega
    rw [hd]
    obtain ⟨e0, e1⟩ := IntK.tick_more h2 h3 d0 d1
    exact ⟨by omega, by omega, e0, e1⟩
set_option maxRecDepth 100000 in
set_option maxHeartbeats 1000000 in
theorem went_any (ad : Option Addr) (wl wp : Nat) (zs : List Int) (from_ n : Nat) (m : Int) (w : World) (hl : wl ≤ 9223372036854775807) (hf : from_ ≤ 200) (hn : n ≤ 200) (hm0 : 0 ≤ m) (hm1 : m ≤ 400)
    (hw : ∀ i, i < wl → ∃ b off, ad = some ⟨b, off, none⟩ ∧ w.cell? ⟨b, off + i, none⟩ = some (.int .i16 (zs.getD i 0)) ∧ (Lit.int .i16 (zs.getD i 0)).wf = true) :
    Calls Try.prog 16 #[.slice ad wl wp, .int .i64 (from_ : Int), .int .i64 (n : Int), .int .i64 m] w fun e w' => e = .returned (.int .i64 (gone wl zs from_ m n)) ∧ w = w' := by
  have HWA := Lib.hid hw
  have HBD := Lib.hid (fun j => gone_bd wl zs from_ hm0 hm1 j)
  clear hw
  go_enter Try.func16, Try.ntmps16
  go_wp2_with fail
  go_loopw [9, 10] (fun g i wr => ∃ j : Nat, j ≤ n ∧ i = .int .i64 ((from_ : Int) + (j : Int)) ∧ g = .int .i64 (gone wl zs from_ m j) ∧ Hid (wr = w)) (fun _ i _ => from_ + n - (intOf i).toNat)
  case atStart => exact ⟨0, Nat.zero_le _, by simp, rfl, Lib.hid rfl⟩
  case round =>
    obtain ⟨j, hj, rfl, rfl, hw⟩ := hrel
    obtain rfl := hw.out
    clear hw
    obtain ⟨i, hi, hif⟩ : ∃ i : Nat, (from_ : Int) + (j : Int) = (i : Int) ∧ from_ + j = i := ⟨from_ + j, by omega, rfl⟩
    rw [hi]
    by_cases hjt : j < n
    · obtain ⟨G0, G1, -, -⟩ := HBD.out j
      have HE : Hid (gone wl zs from_ m (j + 1) = gone wl zs from_ m j + (1024 + if i < wl then (zs.getD i 0).tmod (m + 1) else 0)) := Lib.hid (by rw [gone, hif])
      obtain ⟨G2, G3, -, -⟩ := HBD.out (j + 1)
      generalize gone wl zs from_ m j = G at *
      by_cases hjw : i < wl
      · obtain ⟨b, off, rfl, hck, hwf⟩ := HWA.out i hjw
        obtain ⟨z0, z1⟩ := bounds_i16 hwf
        rw [if_pos hjw] at HE
        generalize zs.getD i 0 = z at *
        obtain ⟨r2, r3⟩ := IntK.tmod_two z m hm0
        have hne : m + 1 ≠ 0 := by omega
        obtain ⟨q, hq⟩ : ∃ q, z.tmod (m + 1) = q := ⟨_, rfl⟩
        rw [hq] at r2 r3 HE
        clear hwf HBD HWA
        go_wp2_with fail
        go_roundw
        case rel => exact ⟨j + 1, by omega, by go_num, by rw [HE.out, Int.add_assoc], by first | exact Lib.hid rfl | exact Lib.hid trivial⟩
        case measure => simp [intOf]; omega
      · rw [if_neg hjw, Int.add_zero] at HE
        clear HBD HWA
        go_wp2_with fail
        go_roundw
        case rel => exact ⟨j + 1, by omega, by go_num, by rw [HE.out], by first | exact Lib.hid rfl | exact Lib.hid trivial⟩
        case measure => simp [intOf]; omega
    · obtain rfl : j = n := by omega
      obtain ⟨G0, G1, -, -⟩ := HBD.out j
      clear HBD HWA
      obtain ⟨G, hG⟩ : ∃ G, Hid (gone wl zs from_ m j = G) := ⟨_, Lib.hid rfl⟩
      rw [hG.out] at G0 G1 ⊢
      go_wp2_with fail
      go_ret
      exact ⟨by rw [hG.out]; rfl, rfl⟩
/-- What a trip's answer is wrong by. -/
theorem trip_true {x y r s p q G K : Int} (x0 : 0 ≤ x) (y8 : y ≤ 8) (r0 : 0 ≤ r) (s0 : 0 ≤ s) (p0 : x ≤ p) (p1 : p ≤ y) (q0 : x ≤ q) (q1 : q ≤ y)
    (g0 : 1024 * (p + q) - r * (p + q) ≤ G) (g1 : G ≤ 1024 * (p + q) + r * (p + q)) (k0 : 1024 * q - (r + s) * q ≤ K) (k1 : K ≤ 1024 * q + (r + s) * q) :
    G / 2 - K ≤ (y - x) * 512 + (2 * r + s) * y + 1 ∧ K - G / 2 ≤ (y - x) * 512 + (2 * r + s) * y + 1 := by
  have h1 : r * (p + q) ≤ r * (2 * y) := Int.mul_le_mul_of_nonneg_left (by omega) r0
  have h2 : (r + s) * q ≤ (r + s) * y := Int.mul_le_mul_of_nonneg_left (by omega) (by omega)
  have e1 : r * (2 * y) = 2 * (r * y) := by rw [← Int.mul_assoc, Int.mul_comm r 2, Int.mul_assoc]
  have e2 : (r + s) * y = r * y + s * y := Int.add_mul _ _ _
  have e3 : (2 * r + s) * y = 2 * (r * y) + s * y := by rw [Int.add_mul, Int.mul_assoc]
  rw [e3]
  rw [e2] at h2
  rw [e1] at h1
  generalize r * (p + q) = A at *
  generalize (r + s) * q = B at *
  generalize r * y = C at *
  generalize s * y = D at *
  omega
end Go.Proofs.Ytecgohdpdkpeoaa.Rdg
