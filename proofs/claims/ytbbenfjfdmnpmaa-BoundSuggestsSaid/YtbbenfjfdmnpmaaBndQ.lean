/- Contracts of package bound (layer 26): Suggest. Written by gen/bnd_su.py. -/
import Derived.Test.YtbbenfjfdmnpmaaBndP
import Derived.Handy
import Derived.Deep.Cut
namespace Go.Proofs.Ytbbenfjfdmnpmaa.Bnd
open Go.ChangeShapes Go.WideShapes Go.ChangeAt Go.RowKit
open Go.Proofs.Ytbbenfjfdmnpmaa.Rw
set_option linter.unusedVariables false
set_option linter.unusedSimpArgs false
theorem ofN_bd (c : Cf) : 0 ≤ (ofN c).delta ∧ (ofN c).delta ≤ 161000000000000 := by
  unfold ofN
  cases h : goodC c with
  | false => rw [if_neg (by simp)]; decide
  | true => rw [if_pos rfl]; exact (num_bd (good_yes h)).delta
set_option maxRecDepth 100000 in
set_option maxHeartbeats 4000000 in
theorem suited_any (c : Cf) (hn : -9223372036854775808 ≤ c.n ∧ c.n ≤ 9223372036854775807) (R : Int) (h0 : 4096 ≤ R) (h1 : R ≤ 1099511627776) (w : World) :
    Calls Try.prog 35 #[cval c, .int .i64 R] w fun e w' => e = .returned (cval (suit c R)) ∧ Below w.heap.size w w' := by
  have CO := Lib.hid (fun W => bof_any (pers c R (R / 4) 1) hn W)
  obtain ⟨d0, d1⟩ := ofN_bd (pers c R (R / 4) 1)
  unfold suit
  obtain ⟨m, hm⟩ : ∃ m, ofN (pers c R (R / 4) 1) = m := ⟨_, rfl⟩
  obtain ⟨er, her⟩ : ∃ m, ofE (pers c R (R / 4) 1) = m := ⟨_, rfl⟩
  rw [hm, her] at CO
  rw [hm] at d0 d1 ⊢
  clear hm her hn
  have hd4 : R.tdiv 4 = R / 4 := Int.tdiv_eq_ediv_of_nonneg (by omega)
  obtain ⟨q, hq⟩ : ∃ q, R / 4 = q := ⟨_, rfl⟩
  rw [hq] at CO hd4 ⊢
  have hq0 : 0 ≤ q ∧ q ≤ 1099511627776 := by omega
  obtain ⟨q0, q1⟩ := hq0
  have hr0 : 0 ≤ R := by omega
  have HQ := Lib.hid hq
  obtain ⟨n, lk, lL, lC, lS, fl, a, b, r, v, pr, pw, pa, x1, x2, x3, x4, x5⟩ := c
  obtain ⟨h, f, s, l, rd, ag, st, ep, mo, cd, ro, de, dn, jn⟩ := m
  unfold pers nval ncells cval ccells at *
  dsimp only at *
  clear HQ
  have HO : Hid ((#[.int .i64 n, .slice lk lL lC, .int .i64 fl, .int .i64 a, .int .i64 b, .int .i64 r, .int .i64 v, .int .i64 R, .int .i64 q, .int .i64 (2 * de), .int .i64 x1, .int .i64 x2, .int .i64 x3, .int .i64 x4, .int .i64 x5] : Array Value).all (·.oneCell') = true) := Lib.hid (cf_one ⟨n, lk, lL, lC, lS, fl, a, b, r, v, R, q, 2 * de, x1, x2, x3, x4, x5⟩)
  have HC : Hid (∀ W, Below ((w.alloc (.cells #[.int .i64 n, .slice lk lL lC, .int .i64 fl, .int .i64 a, .int .i64 b, .int .i64 r, .int .i64 v, .int .i64 R, .int .i64 q, .int .i64 1, .int .i64 x1, .int .i64 x2, .int .i64 x3, .int .i64 x4, .int .i64 x5] 24)).alloc (.cells #[.int .i64 0, .slice none 0 0, .int .i64 0, .int .i64 0, .int .i64 0, .int .i64 0, .int .i64 0, .int .i64 0, .int .i64 0, .int .i64 0, .int .i64 0, .int .i64 0, .int .i64 0, .int .i64 0, .int .i64 0] 24)).heap.size ((w.alloc (.cells #[.int .i64 n, .slice lk lL lC, .int .i64 fl, .int .i64 a, .int .i64 b, .int .i64 r, .int .i64 v, .int .i64 R, .int .i64 q, .int .i64 1, .int .i64 x1, .int .i64 x2, .int .i64 x3, .int .i64 x4, .int .i64 x5] 24)).alloc (.cells #[.int .i64 0, .slice none 0 0, .int .i64 0, .int .i64 0, .int .i64 0, .int .i64 0, .int .i64 0, .int .i64 0, .int .i64 0, .int .i64 0, .int .i64 0, .int .i64 0, .int .i64 0, .int .i64 0, .int .i64 0] 24)) W → Blk W w.heap.size 24 #[.int .i64 n, .slice lk lL lC, .int .i64 fl, .int .i64 a, .int .i64 b, .int .i64 r, .int .i64 v, .int .i64 R, .int .i64 q, .int .i64 1, .int .i64 x1, .int .i64 x2, .int .i64 x3, .int .i64 x4, .int .i64 x5] ∧ Blk W (w.heap.size + 1) 24 #[.int .i64 0, .slice none 0 0, .int .i64 0, .int .i64 0, .int .i64 0, .int .i64 0, .int .i64 0, .int .i64 0, .int .i64 0, .int .i64 0, .int .i64 0, .int .i64 0, .int .i64 0, .int .i64 0, .int .i64 0] ∧ Below w.heap.size w W ∧ w.heap.size + 2 ≤ W.heap.size) := Lib.hid (fun W h => boxes2 h)
  go_enter Try.func35, Try.ntmps35
  go_wp2_with fail
  refine (CO.out _).mono ?_; rintro e w1 ⟨rfl, hB⟩
  first
    | obtain ⟨hk1, hk2, hb1, hs1⟩ := HC.out _ hB
    | (trace_state; fail "here")
  have K1 := Lib.hid hk1
  have K2 := Lib.hid hk2
  have B1 := Lib.hid hb1
  clear hB hk1 hk2 hb1 HC
  go_upto_region 3 with fail
  have N2 := Lib.hid (Blk.new w1 26 #[.int .i64 h, .int .i64 f, .int .i64 s, .int .i64 l, .int .i64 rd, .int .i64 ag, .int .i64 st, .int .i64 ep, .int .i64 mo, .int .i64 cd, .int .i64 ro, .int .i64 de, .int .i64 dn, .int .i64 jn])
  have K12 := Lib.hid (K1.out.alloc (.cells #[.int .i64 h, .int .i64 f, .int .i64 s, .int .i64 l, .int .i64 rd, .int .i64 ag, .int .i64 st, .int .i64 ep, .int .i64 mo, .int .i64 cd, .int .i64 ro, .int .i64 de, .int .i64 dn, .int .i64 jn] 26))
  have K22 := Lib.hid (K2.out.alloc (.cells #[.int .i64 h, .int .i64 f, .int .i64 s, .int .i64 l, .int .i64 rd, .int .i64 ag, .int .i64 st, .int .i64 ep, .int .i64 mo, .int .i64 cd, .int .i64 ro, .int .i64 de, .int .i64 dn, .int .i64 jn] 26))
  have B2 := Lib.hid (B1.out.alloc (by have := B1.out.size; omega) (.cells #[.int .i64 h, .int .i64 f, .int .i64 s, .int .i64 l, .int .i64 rd, .int .i64 ag, .int .i64 st, .int .i64 ep, .int .i64 mo, .int .i64 cd, .int .i64 ro, .int .i64 de, .int .i64 dn, .int .i64 jn] 26))
  clear K1 K2 B1
  generalize (w1.alloc (.cells #[.int .i64 h, .int .i64 f, .int .i64 s, .int .i64 l, .int .i64 rd, .int .i64 ag, .int .i64 st, .int .i64 ep, .int .i64 mo, .int .i64 cd, .int .i64 ro, .int .i64 de, .int .i64 dn, .int .i64 jn] 26)) = w2 at *
  generalize w1.heap.size = g at *
  obtain ⟨-, -, -, -, -, -, -, -, -, -, -, u11, -, -⟩ := nums14 N2.out
  have c9 := K12.out.cell 9
  simp only [List.getElem?_toArray, List.getElem?_cons_succ, List.getElem?_cons_zero] at c9
  have fz := K12.out.free
  go_upto_region 4 with fail
  have K13 := Lib.hid (K12.out.put 9 (.int .i64 (2 * de)))
  have K23 := Lib.hid (K22.out.far (p := ⟨w.heap.size, 9, none⟩) (show w.heap.size + 1 ≠ w.heap.size by omega) (.int .i64 (2 * de)))
  have B3 := Lib.hid (B2.out.setCell (p := ⟨w.heap.size, 9, none⟩) (Nat.le_refl _) (.int .i64 (2 * de)))
  clear u11 c9 fz K12 K22 B2 N2
  generalize (w2.setCell ⟨w.heap.size, 9, none⟩ (.int .i64 (2 * de))) = w3 at *
  have K13 : Hid (Blk w3 w.heap.size 24 #[.int .i64 n, .slice lk lL lC, .int .i64 fl, .int .i64 a, .int .i64 b, .int .i64 r, .int .i64 v, .int .i64 R, .int .i64 q, .int .i64 (2 * de), .int .i64 x1, .int .i64 x2, .int .i64 x3, .int .i64 x4, .int .i64 x5]) := Lib.hid K13.out
  go_wp2_with (first | (refine load_cf rfl _ rfl w.heap.size rfl #[.int .i64 n, .slice lk lL lC, .int .i64 fl, .int .i64 a, .int .i64 b, .int .i64 r, .int .i64 v, .int .i64 R, .int .i64 q, .int .i64 (2 * de), .int .i64 x1, .int .i64 x2, .int .i64 x3, .int .i64 x4, .int .i64 x5] rfl K13.out ?_) | (refine store_cf rfl _ _ rfl (w.heap.size + 1) #[.int .i64 n, .slice lk lL lC, .int .i64 fl, .int .i64 a, .int .i64 b, .int .i64 r, .int .i64 v, .int .i64 R, .int .i64 q, .int .i64 (2 * de), .int .i64 x1, .int .i64 x2, .int .i64 x3, .int .i64 x4, .int .i64 x5] rfl rfl rfl HO.out _ K23.out rfl ?_))
  exact bodyPost_ret (results_cf rfl _ _ (w.heap.size + 1) #[.int .i64 n, .slice lk lL lC, .int .i64 fl, .int .i64 a, .int .i64 b, .int .i64 r, .int .i64 v, .int .i64 R, .int .i64 q, .int .i64 (2 * de), .int .i64 x1, .int .i64 x2, .int .i64 x3, .int .i64 x4, .int .i64 x5] rfl (K23.out.setRow _) rfl) rfl ⟨rfl, below_setRow B3.out (by omega) _⟩
end Go.Proofs.Ytbbenfjfdmnpmaa.Bnd
