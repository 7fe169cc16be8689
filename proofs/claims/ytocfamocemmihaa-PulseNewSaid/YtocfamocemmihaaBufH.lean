/- The document's own answers for layer buf: Fixed, Num, Bytes: numbers as bytes. -/
import Derived.Test.YtocfamocemmihaaBufA
import Derived.Deep.QuietTactic
import Derived.BigQuiet
import Derived.IntWalk
namespace Go.Proofs.Ytocfamocemmihaa.Buf
open Go.ChangeShapes Go.WideShapes Go.ChangeAt Go.RowKit
open Go.Proofs.Ytocfamocemmihaa.Byt Go.Proofs.Ytocfamocemmihaa.Units Go.Proofs.Ytocfamocemmihaa.BufM
set_option linter.unusedVariables false

/-- Bytes of the call's own, handed back. -/
def Gives (l : List UInt8) (w : World) (e : Ending) (w' : World) : Prop := ∃ ad cap, e = .returned (.slice ad l.length cap) ∧ OwnB w' w.heap.size (.slice ad l.length cap) l ∧ Below w.heap.size w w'
theorem gives_of {l : List UInt8} {w : World} {v : Value} {w' : World} (h : OwnB w' w.heap.size v l) (hB : Below w.heap.size w w') : Gives l w (.returned v) w' := by
  obtain ⟨ad, cap, rfl, _⟩ := Own.shape h
  exact ⟨ad, cap, rfl, h, hB⟩
/-- One byte in a row of its own. -/
theorem own_one (w : World) (b : UInt8) : OwnB (w.alloc (.cells #[bv b] 5)) w.heap.size (.slice (some ⟨w.heap.size, 0, none⟩) 1 1) [b] :=
  ⟨rfl, .inr ⟨w.heap.size, 1, #[bv b], rfl, Nat.le_refl _, Blk.new _ _ _, Nat.le_refl _, by unfold maxLen; omega, rfl, rfl⟩⟩
/-- No byte, in a row of its own. -/
theorem own_zero (w : World) : OwnB (w.alloc (.cells #[] 5)) w.heap.size (.slice (some ⟨w.heap.size, 0, none⟩) 0 0) [] :=
  ⟨rfl, .inr ⟨w.heap.size, 0, #[], rfl, Nat.le_refl _, Blk.new _ _ _, Nat.le_refl _, by unfold maxLen; omega, rfl, rfl⟩⟩
set_option maxRecDepth 100000 in
set_option maxHeartbeats 400000 in
theorem rNum_any (x : Nat) : x < 18446744073709551616 → ∀ w : World, Calls Try.prog 37 #[.int .u64 (x : Int)] w (Gives (sev x) w) := by
  induction x using Nat.strongRecOn with
  | ind x ih =>
    intro hx w
    by_cases h : x < 128
    · have HP : Hid (∀ v, v = Value.slice (some ⟨w.heap.size, 0, none⟩) 1 1 → Gives (sev x) w (.returned v) (w.alloc (.cells #[.int .u8 (x : Int)] 5))) := Lib.hid (fun v hv => by
        have e := own_one w (UInt8.ofNat x)
        rw [bv_of (by omega)] at e
        rw [sev_small h, hv]
        exact gives_of e ((Below.refl _ _).alloc (Nat.le_refl _) _))
      clear ih
      go_enter Try.func37, Try.ntmps37
      go_wp2_with fail
      go_ret
      exact HP.out _ rfl
    · obtain ⟨i0, hi, hz0, hz1, hz2⟩ := info_parts infoByte
      have hx2 : x / 128 < x := by omega
      have C := Lib.hid (fun w => ih (x / 128) hx2 (by omega) w)
      have hs := sev_ten (x := x / 128) (by omega)
      have hS := sev_big (x := x) (by omega)
      have ey : ((x % 128 + 128 : Nat) : Int) = (x : Int) % 128 + 128 := by omega
      have hbv : bv (UInt8.ofNat (x % 128 + 128)) = .int .u8 ((x : Int) % 128 + 128) := by rw [bv_of (by omega), ey]
      rw [show ((x / 128 : Nat) : Int) = (x : Int) / 128 from by omega] at C
      clear ih ey
      generalize UInt8.ofNat (x % 128 + 128) = y at *
      generalize sev (x / 128) = t at *
      have HO : Hid (∀ w1, Below (w.heap.size + 1) (w.alloc (.cells #[.int .u8 ((x : Int) % 128 + 128)] 5)) w1 → w1.ownsRow w.heap.size 5 1 (.slice (some ⟨w.heap.size, 0, none⟩) 1 1) 1 [.int .u8 ((x : Int) % 128 + 128)]) := Lib.hid (fun w1 hB => by
        have e := own_one w y
        rw [hbv] at e
        have e2 := e.below (W' := w1) (hB.mono (by simp))
        unfold OwnB at e2
        rw [show bvs [y] = [.int .u8 ((x : Int) % 128 + 128)] from by unfold bvs; rw [List.map_singleton, hbv]] at e2
        exact e2)
      have HP : Hid (∀ (w1 w2 : World) (v : Value) (n : Nat), Below (w.heap.size + 1) (w.alloc (.cells #[.int .u8 ((x : Int) % 128 + 128)] 5)) w1 → w2.ownsRow w.heap.size 5 1 v n ([.int .u8 ((x : Int) % 128 + 128)] ++ bvs t) → n = 1 + t.length → w1.grownBy w2 (some w.heap.size) → Hid (Gives (sev x) w (.returned v) w2)) := Lib.hid (fun w1 w2 v n hB ho hn hg => Lib.hid (by
        refine gives_of ?_ ?_
        · rw [hS]
          unfold OwnB
          rw [List.length_cons, show bvs (y :: t) = [.int .u8 ((x : Int) % 128 + 128)] ++ bvs t from by unfold bvs; rw [List.map_cons, hbv]; rfl, Nat.add_comm, ← hn]
          exact ho
        · have h1 : Below w.heap.size w w1 := ((Below.refl _ _).alloc (Nat.le_refl _) _).trans (hB.mono (by omega))
          exact h1.grown hg h1.size (fun k e => by cases e; omega)))
      clear hS hbv
      go_enter Try.func37, Try.ntmps37
      go_wp2_with fail
      refine (C.out _).mono ?_; rintro e w1 ⟨ad, cap, rfl, ho, hB⟩
      have hsz : (w.alloc (.cells #[.int .u8 ((x : Int) % 128 + 128)] 5)).heap.size = w.heap.size + 1 := by simp
      rw [hsz] at hB
      have hle : w.heap.size ≤ w1.heap.size := by have := hB.size; rw [hsz] at this; omega
      have hp := ho.pos
      have HO := HO.out w1 hB
      have c3 := Lib.hid (nil_none rfl ho.rd.1 hp.2.2.1)
      have c4 := Lib.hid (RdB.cells ho.rd.1)
      have HP := Lib.hid (HP.out w1)
      have HB := Lib.hid hB
      clear hsz ho hp hB
      go_wp2_with (at_builtin; refine Own.wpList_append2_any _ rfl _ _ 25 rfl w.heap.size 5 i0 (.int .u8 0) 1 1 Try.underlying25 hi hz0 hz1 hz2 rfl (by decide) (.slice (some ⟨w.heap.size, 0, none⟩) 1 1) 1 _ rfl HO ad t.length cap (bvs t) rfl (by rw [bvs_len, Nat.mul_one]) c3.out c4.out (bvs_oneCell _) (by unfold maxLen; omega) (by omega) hle ?_; intro v' w2 hown hgrow hnew; have HQ := HP.out _ _ _ HB.out hown rfl hgrow; clear hown hgrow hnew)
      go_ret
      exact HQ.out
theorem div_pow (x k : Nat) : x / 256 ^ k / 256 = x / 256 ^ (k + 1) := by rw [Nat.div_div_eq_div_mul, Nat.pow_succ]
set_option maxRecDepth 100000 in
set_option maxHeartbeats 400000 in
theorem rFixed_any (x n : Nat) (hx : x < 18446744073709551616) (hn : n ≤ 8) (w : World) : Calls Try.prog 36 #[.int .u64 (x : Int), .int .i64 (n : Int)] w (Gives (fixB x n) w) := by
  obtain ⟨i0, hi, hz0, hz1, hz2⟩ := info_parts infoByte
  go_enter Try.func36, Try.ntmps36
  go_wp2_with fail
  go_loopw [0, 5, 6] (fun xv v iv wr => ∃ (k y : Nat) (l : List UInt8), k ≤ n ∧ iv = .int .i64 (k : Int) ∧ xv = .int .u64 (y : Int) ∧ y < 18446744073709551616 ∧ Hid (y = x / 256 ^ k) ∧ Hid (l.length = k) ∧ Hid (l = fixB x k) ∧ Hid (∃ ad cap, v = .slice ad k cap) ∧ Hid (OwnB wr w.heap.size v l) ∧ Hid (Below w.heap.size w wr)) (fun _ _ i _ => n - (intOf i).toNat)
  case atStart => exact ⟨0, x, [], Nat.zero_le _, rfl, rfl, hx, Lib.hid (by simp), Lib.hid rfl, Lib.hid rfl, Lib.hid ⟨_, _, rfl⟩, Lib.hid (own_zero w), Lib.hid ((Below.refl _ _).alloc (Nat.le_refl _) _)⟩
  case round =>
    obtain ⟨k, y, l, hk, rfl, rfl, hy, hyx, hl, hlf, hv, ho, hB⟩ := hrel
    obtain ⟨ad, cap, rfl⟩ := hv.out
    by_cases hlt : k < n
    · have hle := hB.out.size
      have hown := (ho.out.alloc (.cells #[.int .u8 ((y : Int) % 256)] 5))
      unfold OwnB at hown
      rw [hl.out] at hown
      have hbv : bvs [UInt8.ofNat (y % 256)] = [.int .u8 ((y : Int) % 256)] := by
        unfold bvs; rw [List.map_singleton, bv_of (Nat.mod_lt _ (by omega))]; rfl
      have HN : Hid (∀ w1 v1, w1.ownsRow w.heap.size 5 1 v1 (k + 1) (bvs l ++ [.int .u8 ((y : Int) % 256)]) → (wr.alloc (.cells #[.int .u8 ((y : Int) % 256)] 5)).grownBy w1 (Value.slice ad k cap).ownBlock →
          Hid (y / 256 = x / 256 ^ (k + 1)) ∧ Hid ((l ++ [UInt8.ofNat (y % 256)]).length = k + 1) ∧ Hid (l ++ [UInt8.ofNat (y % 256)] = fixB x (k + 1)) ∧ Hid (∃ ad cap, v1 = .slice ad (k + 1) cap) ∧ Hid (OwnB w1 w.heap.size v1 (l ++ [UInt8.ofNat (y % 256)])) ∧ Hid (Below w.heap.size w w1)) := Lib.hid (fun w1 v1 h1 h2 => by
        have e := hyx.out
        refine ⟨Lib.hid (by rw [e, div_pow]), Lib.hid (by rw [List.length_append, hl.out]; rfl), Lib.hid (by rw [fixB_snoc, hlf.out, e]), Lib.hid ?_, Lib.hid ?_, Lib.hid ?_⟩
        · obtain ⟨a2, c2, e2, _⟩ := Own.shape h1
          exact ⟨a2, c2, e2⟩
        · unfold OwnB
          rw [bvs_append, hbv, List.length_append, hl.out]
          exact h1
        · exact (hB.out.alloc hle _).grown h2 (by simp; omega) (fun j e => (own_at ho.out e).1))
      have hy2 : y / 256 < 18446744073709551616 := by omega
      clear hbv hyx hl hlf hv ho hB
      generalize UInt8.ofNat (y % 256) = b at *
      go_wp2_with (at_builtin; refine Own.wpList_append2 _ rfl _ _ 25 rfl w.heap.size 5 i0 (.int .u8 0) 1 1 Try.underlying25 hi hz0 hz1 hz2 rfl (by decide) (.slice ad k cap) k _ rfl hown ⟨wr.heap.size, 0, none⟩ 1 1 [.int .u8 ((y : Int) % 256)] rfl rfl (cell_one_new _ _ _) (by simp [Value.oneCell']) (by unfold maxLen; omega) (by omega) (by simp; omega) ?_; intro v1 w1 hown1 hgrow _ _; obtain ⟨k1, k2, k3, k4, k5, k6⟩ := HN.out w1 v1 hown1 hgrow; clear hown1 hgrow)
      go_roundw
      case rel => exact ⟨k + 1, y / 256, _, by omega, by go_num, by go_num, hy2, k1, k2, k3, k4, k5, k6⟩
      case measure => simp [intOf]; omega
    · obtain rfl : k = n := by omega
      have HP := Lib.hid (gives_of (v := .slice ad k cap) ho.out hB.out)
      rw [hlf.out] at HP
      clear hlf ho hB hl hyx hv
      go_wp2_with fail
      go_ret
      exact HP.out
end Go.Proofs.Ytocfamocemmihaa.Buf
