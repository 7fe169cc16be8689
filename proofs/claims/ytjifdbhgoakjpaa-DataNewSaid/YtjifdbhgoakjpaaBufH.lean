/- The document's own answers for layer buf: Fixed, Num, Bytes: numbers as bytes. -/
import Derived.Test.YtjifdbhgoakjpaaBufA
import Derived.Deep.QuietTactic
import Derived.BigQuiet
import Derived.IntWalk
namespace Go.Proofs.Ytjifdbhgoakjpaa.Buf
open Go.ChangeShapes Go.WideShapes Go.ChangeAt Go.RowKit
open Go.Proofs.Ytjifdbhgoakjpaa.Byt Go.Proofs.Ytjifdbhgoakjpaa.Units Go.Proofs.Ytjifdbhgoakjpaa.BufM
set_option linter.unusedVariables false

/-- Bytes of the call's own, handed back. -/
def Gives (l : List UInt8) (w : World) (e : Ending) (w' : World) : Prop := ∃ ad cap, e = .returned (.slice ad l.length cap) ∧ OwnB w' w.heap.size (.slice ad l.length cap) l ∧ Below w.heap.size w w'
theorem gives_of {l : List UInt8} {w : World} {v : Value} {w' : World} (h : OwnB w' w.heap.size v l) (hB : Below w.heap.size w w') : Gives l w (.returned v) w' := by
  obtain ⟨ad, cap, rfl, _⟩ := Own.shape h
  exact ⟨ad, cap, rfl, h, hB⟩
/-- One byte in a row of its own. -/
theorem own_one (w : World) (b : UInt8) : OwnB (w.alloc (.cells #[bv b] 5)) w.heap.size (.slice (some ⟨w.heap.size, 0, none⟩) 1 1) [b] :=
  ⟨rfl, .inr ⟨w.heap.size, 1, #[bv b], rfl, Nat.le_refl _, Blk.new _ _ _, Nat.le_refl _, by unfold maxLen; omega, rfl, rfl⟩⟩
/-- No byte, in a row of its own. -/
theorem own_zero (w : World) : OwnB (w.alloc (.cells #[] 5)) w.heap.size (.slice (some ⟨w.heap.size, 0, none⟩) 0 0) [] :=
  ⟨rfl, .inr ⟨w.heap.size, 0, #[], rfl, Nat.le_refl _, Blk.new _ _ _, Nat.le_refl _, by unfold maxLen; omega, rfl, rfl⟩⟩
set_option maxRecDepth 100000 in
set_option maxHeartbeats 400000 in
theorem rNum_any (x : Nat) : x < 18446744073709551616 → ∀ w : World, Calls Try.prog 44 #[.int .u64 (x : Int)] w (Gives (sev x) w) := by
  induction x using Nat.strongRecOn with
  | ind x ih =>
    intro hx w
    by_cases h : x < 128
    · have HP : Hid (∀ v, v = Value.slice (some ⟨w.heap.size, 0, none⟩) 1 1 → Gives (sev x) w (.returned v) (w.alloc (.cells #[.int .u8 (x : Int)] 5))) := Lib.hid (fun v hv => by
        have e := own_one w (UInt8.ofNat x)
        rw [bv_of (by omega)] at e
        rw [sev_small h, hv]
        exact gives_of e ((Below.refl _ _).alloc (Nat.le_refl _) _))
      clear ih
      go_enter Try.func44, Try.ntmps44
      go_wp2_with fail
      go_ret
      exact HP.out _ rfl
    · obtain ⟨i0, hi, hz0, hz1, hz2⟩ := info_parts infoByte
      have hx2 : x / 128 < x := by omega
      have C := Lib.hid (fun w => ih (x / 128) hx2 (by omega) w)
      have hs := sev_ten (x := x / 128) (by omega)
      have hS := sev_big (x := x) (by omega)
      have ey : ((x % 128 + 128 : Nat) : Int) = (x : Int) % 128 + 128 := by omega
      have hbv : bv (UInt8.ofNat (x % 128 + 128)) = .int .u8 ((x : Int) % 128 + 128) := by rw [bv_of (by omega), ey]
      rw [show ((x / 128 : Nat) : Int) = (x : Int) / 128 from by omega] at C
      clear ih ey
      generalize UInt8.ofNat (x % 128 + 128) = y at *
      generalize sev (x / 128) = t at *
      have HO : Hid (∀ w1, Below (w.heap.size + 1) (w.alloc (.cells #[.int .u8 ((x : Int) % 128 + 128)] 5)) w1 → w1.ownsRow w.heap.size 5 1 (.slice (some ⟨w.heap.size, 0, none⟩) 1 1) 1 [.int .u8 ((x : Int) % 128 + 128)]) := Lib.hid (fun w1 hB => by
        have e := own_one w y
        rw [hbv] at e
        have e2 := e.below (W' := w1) (hB.mono (by simp))
        unfold OwnB at e2
        rw [show bvs [y] = [.int .u8 ((x : Int) % 128 + 128)] from by unfold bvs; rw [List.map_singleton, hbv]] at e2
        exact e2)
      have HP : Hid (∀ (w1 w2 : World) (v : Value) (n : Nat), Below (w.heap.size + 1) (w.alloc (.cells #[.int .u8 ((x : Int) % 128 + 128)] 5)) w1 → w2.ownsRow w.heap.size 5 1 v n ([.int .u8 ((x : Int) % 128 + 128)] ++ bvs t) → n = 1 + t.length → w1.grownBy w2 (some w.heap.size) → Hid (Gives (sev x) w (.returned v) w2)) := Lib.hid (fun w1 w2 v n hB ho hn hg => Lib.hid (by
        refine gives_of ?_ ?_
        · rw [hS]
          unfold OwnB
          rw [List.length_cons, show bvs (y :: t) = [.int .u8 ((x : Int) % 128 + 128)] ++ bvs t from by unfold bvs; rw [List.map_cons, hbv]; rfl, Nat.add_comm, ← hn]
          exact ho
        · have h1 : Below w.heap.size w w1 := ((Below.refl _ _).alloc (Nat.le_refl _) _).trans (hB.mono (by omega))
          exact h1.grown hg h1.size (fun k e => by cases e; omega)))
      clear hS hbv
      go_enter Try.func44, Try.ntmps44
      go_wp2_with fail
      refine (C.out _).mono ?_; rintro e w1 ⟨ad, cap, rfl, ho, hB⟩
      have hsz : (w.alloc (.cells #[.int .u8 ((x : Int) % 128 + 128)] 5)).heap.size = w.heap.size + 1 := by simp
      rw [hsz] at hB
      have hle : w.heap.size ≤ w1.heap.size := by have := hB.size; rw [hsz] at this; omega
      have hp := ho.pos
      have HO := HO.out w1 hB
      have c3 := Lib.hid (nil_none rfl ho.rd.1 hp.2.2.1)
      have c4 := Lib.hid (RdB.cells ho.rd.1)
      have HP := Lib.hid (HP.out w1)
      have HB := Lib.hid hB
      clear hsz ho hp hB
      go_wp2_with (at_builtin; refine Own.wpList_append2_any _ rfl _ _ 25 rfl w.heap.size 5 i0 (.int .u8 0) 1 1 Try.underlying25 hi hz0 hz1 hz2 rfl (by decide) (.slice (some ⟨w.heap.size, 0, none⟩) 1 1) 1 _ rfl HO ad t.length cap (bvs t) rfl (by rw [bvs_len, Nat.mul_one]) c3.out c4.out (bvs_oneCell _) (by unfold maxLen; omega) (by omega) hle ?_; intro v' w2 hown hgrow hnew; have HQ := HP.out _ _ _ HB.out hown rfl hgrow; clear hown hgrow hnew)
      go_ret
      exact HQ.out
theorem rBytes_any (ad : Option Addr) (len cap : Nat) (l : List UInt8) (w : World) (hlen : l.length = len) (hm : len ≤ 1000000) (hr : RdB w ad l) (hn : ad = none → cap = 0) :
    Calls Try.prog 31 #[.slice ad len cap] w (Gives (sev len ++ l) w) := by
  obtain ⟨i0, hi, hz0, hz1, hz2⟩ := info_parts infoByte
  have C := Lib.hid (rNum_any len (by omega) w)
  have hs := sev_ten (x := len) (by omega)
  have hc : (len : Int) ≤ 9223372036854775807 := by omega
  have c3 := Lib.hid (nil_none hlen hr hn)
  have HR := Lib.hid hr
  have HL := Lib.hid hlen
  have HP : Hid (∀ (t : List UInt8) (w1 w2 : World) (v1 v : Value), t = sev len → OwnB w1 w.heap.size v1 t → Below w.heap.size w w1 → w2.ownsRow w.heap.size 5 1 v (t.length + len) (bvs t ++ bvs l) → w1.grownBy w2 v1.ownBlock → Hid (Gives (sev len ++ l) w (.returned v) w2)) := Lib.hid (fun t w1 w2 v1 v ht ho1 hB ho hg => Lib.hid (by
    subst ht
    refine gives_of ?_ (hB.grown hg hB.size (fun k e => (own_at ho1 e).1))
    unfold OwnB
    rw [List.length_append, hlen, bvs_append]
    exact ho))
  have HT := Lib.hid (show sev len = sev len from rfl)
  clear hlen hr hn
  generalize hsev : sev len = t at *
  have HT := Lib.hid hsev.symm
  clear hsev
  go_enter Try.func31, Try.ntmps31
  go_wp2_with fail
  refine (C.out).mono ?_; rintro e w1 ⟨ad2, cap2, rfl, ho, hB⟩
  have hle := hB.size
  have c4 := Lib.hid (RdB.cells (HR.out.below hB))
  have HP := Lib.hid (HP.out t w1)
  have HO := Lib.hid ho
  have HB := Lib.hid hB
  unfold OwnB at ho
  clear hB
  go_wp2_with (at_builtin; refine Own.wpList_append2_any _ rfl _ _ 25 rfl w.heap.size 5 i0 (.int .u8 0) 1 1 Try.underlying25 hi hz0 hz1 hz2 rfl (by decide) (.slice ad2 t.length cap2) t.length _ rfl ho ad len cap (bvs l) rfl (by rw [bvs_len, HL.out, Nat.mul_one]) c3.out c4.out (bvs_oneCell _) (by unfold maxLen; omega) (by omega) hle ?_; intro v' w2 hown hgrow hnew; have HQ := HP.out _ _ _ HT.out HO.out HB.out hown hgrow; clear hown hgrow hnew)
  go_ret
  exact HQ.out
theorem div_pow (x k : Nat) : x / 256 ^ k / 256 = x / 256 ^ (k + 1) := by rw [Nat.div_div_eq_div_mul, Nat.pow_succ]
end Go.Proofs.Ytjifdbhgoakjpaa.Buf
