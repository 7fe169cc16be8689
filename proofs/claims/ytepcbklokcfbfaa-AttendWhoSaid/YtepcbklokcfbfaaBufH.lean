/- The document's own answers for layer buf: Fixed, Num, Bytes: numbers as bytes. -/
import Derived.Test.YtepcbklokcfbfaaBufA
import Derived.Deep.QuietTactic
import Derived.BigQuiet
import Derived.IntWalk
namespace Go.Proofs.Ytepcbklokcfbfaa.Buf
open Go.ChangeShapes Go.WideShapes Go.ChangeAt Go.RowKit
open Go.Proofs.Ytepcbklokcfbfaa.Byt Go.Proofs.Ytepcbklokcfbfaa.Units Go.Proofs.Ytepcbklokcfbfaa.BufM
set_option linter.unusedVariables false

/-- Bytes of the call's own, handed back. -/
def Gives (l : List UInt8) (w : World) (e : Ending) (w' : World) : Prop := ∃ ad cap, e = .returned (.slice ad l.length cap) ∧ OwnB w' w.heap.size (.slice ad l.length cap) l ∧ Below w.heap.size w w'
theorem gives_of {l : List UInt8} {w : World} {v : Value} {w' : World} (h : OwnB w' w.heap.size v l) (hB : Below w.heap.size w w') : Gives l w (.returned v) w' := by
  obtain ⟨ad, cap, rfl, _⟩ := Own.shape h
  exact ⟨ad, cap, rfl, h, hB⟩
/-- One byte in a row of its own. -/
theorem own_one (w : World) (b : UInt8) : OwnB (w.alloc (.cells #[bv b] 5)) w.heap.size (.slice (some ⟨w.heap.size, 0, none⟩) 1 1) [b] :=
  ⟨rfl, .inr ⟨w.heap.size, 1, #[bv b], rfl, Nat.le_refl _, Blk.new _ _ _, Nat.le_refl _, by unfold maxLen; omega, rfl, rfl⟩⟩
/-- No byte, in a row of its own. -/
theorem own_zero (w : World) : OwnB (w.alloc (.cells #[] 5)) w.heap.size (.slice (some ⟨w.heap.size, 0, none⟩) 0 0) [] :=
  ⟨rfl, .inr ⟨w.heap.size, 0, #[], rfl, Nat.le_refl _, Blk.new _ _ _, Nat.le_refl _, by unfold maxLen; omega, rfl, rfl⟩⟩
set_option maxRecDepth 100000 in
set_option maxHeartbeats 400000 in
theorem rNum_any (x : Nat) : x < 18446744073709551616 → ∀ w : World, Calls Try.prog 32 #[.int .u64 (x : Int)] w (Gives (sev x) w) := by
  induction x using Nat.strongRecOn with
  | ind x ih =>
    intro hx w
    by_cases h : x < 128
    · have HP : Hid (∀ v, v = Value.slice (some ⟨w.heap.size, 0, none⟩) 1 1 → Gives (sev x) w (.returned v) (w.alloc (.cells #[.int .u8 (x : Int)] 5))) := Lib.hid (fun v hv => by
        have e := own_one w (UInt8.ofNat x)
        rw [bv_of (by omega)] at e
        rw [sev_small h, hv]
        exact gives_of e ((Below.refl _ _).alloc (Nat.le_refl _) _))
      clear ih
      go_enter Try.func32, Try.ntmps32
      go_wp2_with fail
      go_ret
      exact HP.out _ rfl
    · obtain ⟨i0, hi, hz0, hz1, hz2⟩ := info_parts infoByte
      have hx2 : x / 128 < x := by omega
      have C := Lib.hid (fun w => ih (x / 128) hx2 (by omega) w)
      have hs := sev_ten (x := x / 128) (by omega)
      have hS := sev_big (x := x) (by omega)
      have ey : ((x % 128 + 128 : Nat) : Int) = (x : Int) % 128 + 128 := by omega
      have hbv : bv (UInt8.ofNat (x % 128 + 128)) = .int .u8 ((x : Int) % 128 + 128) := by rw [bv_of (by omega), ey]
      rw [show ((x / 128 : Nat) : Int) = (x : Int) / 128 from by omega] at C
      clear ih ey
      generalize UInt8.ofNat (x % 128 + 128) = y at *
      generalize sev (x / 128) = t at *
      have HO : Hid (∀ w1, Below (w.heap.size + 1) (w.alloc (.cells #[.int .u8 ((x : Int) % 128 + 128)] 5)) w1 → w1.ownsRow w.heap.size 5 1 (.slice (some ⟨w.heap.size, 0, none⟩) 1 1) 1 [.int .u8 ((x : Int) % 128 + 128)]) := Lib.hid (fun w1 hB => by
        have e := own_one w y
        rw [hbv] at e
        have e2 := e.below (W' := w1) (hB.mono (by simp))
        unfold OwnB at e2
        rw [show bvs [y] = [.int .u8 ((x : Int) % 128 + 128)] from by unfold bvs; rw [List.map_singleton, hbv]] at e2
        exact e2)
      have HP : Hid (∀ (w1 w2 : World) (v : Value) (n : Nat), Below (w.heap.size + 1) (w.alloc (.cells #[.int .u8 ((x : Int) % 128 + 128)] 5)) w1 → w2.ownsRow w.heap.size 5 1 v n ([.int .u8 ((x : Int) % 128 + 128)] ++ bvs t) → n = 1 + t.length → w1.grownBy w2 (some w.heap.size) → Hid (Gives (sev x) w (.returned v) w2)) := Lib.hid (fun w1 w2 v n hB ho hn hg => Lib.hid (by
        refine gives_of ?_ ?_
        · rw [hS]
          unfold OwnB
          rw [List.length_cons, show bvs (y :: t) = [.int .u8 ((x : Int) % 128 + 128)] ++ bvs t from by unfold bvs; rw [List.map_cons, hbv]; rfl, Nat.add_comm, ← hn]
          exact ho
        · have h1 : Below w.heap.size w w1 := ((Below.refl _ _).alloc (Nat.le_refl _) _).trans (hB.mono (by omega))
          exact h1.grown hg h1.size (fun k e => by cases e; omega)))
      clear hS hbv
      go_enter Try.func32, Try.ntmps32
      go_wp2_with fail
      refine (C.out _).mono ?_; rintro e w1 ⟨ad, cap, rfl, ho, hB⟩
      have hsz : (w.alloc (.cells #[.int .u8 ((x : Int) % 128 + 128)] 5)).heap.size = w.heap.size + 1 := by simp
      rw [hsz] at hB
      have hle : w.heap.size ≤ w1.heap.size := by have := hB.size; rw [hsz] at this; omega
      have hp := ho.pos
      have HO := HO.out w1 hB
      have c3 := Lib.hid (nil_none rfl ho.rd.1 hp.2.2.1)
      have c4 := Lib.hid (RdB.cells ho.rd.1)
      have HP := Lib.hid (HP.out w1)
      have HB := Lib.hid hB
      clear hsz ho hp hB
      go_wp2_with (at_builtin; refine Own.wpList_append2_any _ rfl _ _ 25 rfl w.heap.size 5 i0 (.int .u8 0) 1 1 Try.underlying25 hi hz0 hz1 hz2 rfl (by decide) (.slice (some ⟨w.heap.size, 0, none⟩) 1 1) 1 _ rfl HO ad t.length cap (bvs t) rfl (by rw [bvs_len, Nat.mul_one]) c3.out c4.out (bvs_oneCell _) (by unfold maxLen; omega) (by omega) hle ?_; intro v' w2 hown hgrow hnew; have HQ := HP.out _ _ _ HB.out hown rfl hgrow; clear hown hgrow hnew)
      go_ret
      exact HQ.out
theorem div_pow (x k : Nat) : x / 256 ^ k / 256 = x / 256 ^ (k + 1) := by rw [Nat.div_div_eq_div_mul, Nat.pow_succ]
end Go.Proofs.Ytepcbklokcfbfaa.Buf
