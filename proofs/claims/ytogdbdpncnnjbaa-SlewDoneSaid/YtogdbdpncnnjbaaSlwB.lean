/- A correction that a call made itself, beside what was there ahead of it (layer 21): contracts that hand the whole on; the chapter's example. -/
import Derived.Test.YtogdbdpncnnjbaaSlwA
namespace Go.Proofs.Ytogdbdpncnnjbaa.Slw
open Go.ChangeShapes Go.WideShapes Go.ChangeAt Go.RowKit
open Go.Proofs.Ytogdbdpncnnjbaa.Rw
set_option linter.unusedVariables false
/-- A correction in a block of its own; what was there in w stands. -/
structure Has (w W : World) (g : Nat) (m l : Int) : Prop where
  ge : w.heap.size ≤ g
  box : SC W g m l
  bel : Below w.heap.size w W
  lo : -1152921504606846976 ≤ l
  hi : l ≤ 1152921504606846976
theorem Has.to {w W W' : World} {g : Nat} {m l l' : Int} (h : Has w W g m l) (p : AimPost g m l' W W') (h0 : -1152921504606846976 ≤ l') (h1 : l' ≤ 1152921504606846976) : Has w W' g m l' :=
  ⟨h.ge, p.1, h.bel.trans (p.2.below (fun k e => by rw [e]; exact h.ge) h.bel.size), h0, h1⟩
theorem Has.on {w W W' : World} {g : Nat} {m l : Int} (h : Has w W g m l) (p : Below W.heap.size W W') : Has w W' g m l :=
  ⟨h.ge, h.box.below p, h.bel.trans (p.mono h.bel.size), h.lo, h.hi⟩
theorem hnew_any {w W : World} (m : Int) (h : Below w.heap.size w W) :
    Calls Try.prog 7 #[.int .i64 m] W fun e w' => e = .returned (.pointer (some ⟨W.heap.size, 0, none⟩)) ∧ Has w w' W.heap.size m 0 :=
  (snew_any m W).mono fun e w' ⟨he, h1, h2⟩ => ⟨he, h.size, h1, h.trans (h2.mono h.size), by omega, by omega⟩
theorem haim_any {w W : World} {g : Nat} {m l : Int} (c : Int) (h : Has w W g m l) :
    Calls Try.prog 11 #[.pointer (some ⟨g, 0, none⟩), .int .i64 c] W fun e w' => e = .returned (.tuple #[]) ∧ Has w w' g m (saV c) :=
  (saim_any g m l c W h.box).mono fun e w' ⟨he, h1⟩ => ⟨he, h.to h1 (sa_bd c).1 (sa_bd c).2⟩
theorem hleft_any {w W : World} {g : Nat} {m l : Int} (h : Has w W g m l) :
    Calls Try.prog 13 #[.pointer (some ⟨g, 0, none⟩)] W fun e w' => e = .returned (.int .i64 l) ∧ W = w' :=
  sleft_any g m l W h.box
theorem hstep_any {w W : World} {g : Nat} {m l : Int} (i : Int) (h : Has w W g m l) :
    Calls Try.prog 10 #[.pointer (some ⟨g, 0, none⟩), .int .i64 i] W fun e w' => e = .returned (.int .i64 (siV i + smV (sgV m) l (siV i))) ∧ Has w w' g m (l - smV (sgV m) l (siV i)) :=
  (sstep_any g m l i W h.box h.lo h.hi).mono fun e w' ⟨he, h1⟩ => ⟨he, by
    obtain ⟨m0, m1, m2, m3, m4⟩ := sm_bd (l := l) (sg_bd m).1 (si_bd i).1
    have := h.lo
    have := h.hi
    exact h.to h1 (by omega) (by omega)⟩
theorem hticks_any {w W : World} {g : Nat} {m l : Int} (h : Has w W g m l) :
    Calls Try.prog 14 #[.pointer (some ⟨g, 0, none⟩)] W fun e w' => e = .returned (.int .i64 (stV (sgV m) l)) ∧ Has w w' g m l :=
  (sticks_any g m l W h.box h.lo h.hi).mono fun e w' ⟨he, h1⟩ => ⟨he, h.on h1⟩
theorem works21_any (w : World) :
    Calls Try.prog 16 #[] w fun e w' => e = .returned (.bool true) ∧ Below w.heap.size w w' := by
  have CN := Lib.hid (hnew_any 10 (Below.refl w.heap.size w))
  have CA : Hid (∀ W, Has w W w.heap.size 10 0 → Calls Try.prog 11 #[.pointer (some ⟨w.heap.size, 0, none⟩), .int .i64 (-25)] W fun e w' => e = .returned (.tuple #[]) ∧ Has w w' w.heap.size 10 (-25)) := Lib.hid (fun W h => haim_any (-25) h)
  have CT : Hid (∀ W, Has w W w.heap.size 10 (-25) → Calls Try.prog 14 #[.pointer (some ⟨w.heap.size, 0, none⟩)] W fun e w' => e = .returned (.int .i64 3) ∧ Has w w' w.heap.size 10 (-25)) := Lib.hid (fun W h => hticks_any h)
  have C1 : Hid (∀ W, Has w W w.heap.size 10 (-25) → Calls Try.prog 10 #[.pointer (some ⟨w.heap.size, 0, none⟩), .int .i64 100] W fun e w' => e = .returned (.int .i64 90) ∧ Has w w' w.heap.size 10 (-15)) := Lib.hid (fun W h => hstep_any 100 h)
  have C2 : Hid (∀ W, Has w W w.heap.size 10 (-15) → Calls Try.prog 10 #[.pointer (some ⟨w.heap.size, 0, none⟩), .int .i64 100] W fun e w' => e = .returned (.int .i64 90) ∧ Has w w' w.heap.size 10 (-5)) := Lib.hid (fun W h => hstep_any 100 h)
  have C3 : Hid (∀ W, Has w W w.heap.size 10 (-5) → Calls Try.prog 10 #[.pointer (some ⟨w.heap.size, 0, none⟩), .int .i64 100] W fun e w' => e = .returned (.int .i64 95) ∧ Has w w' w.heap.size 10 0) := Lib.hid (fun W h => hstep_any 100 h)
  have C4 : Hid (∀ W, Has w W w.heap.size 10 0 → Calls Try.prog 10 #[.pointer (some ⟨w.heap.size, 0, none⟩), .int .i64 100] W fun e w' => e = .returned (.int .i64 100) ∧ Has w w' w.heap.size 10 0) := Lib.hid (fun W h => hstep_any 100 h)
  have C5 : Hid (∀ W, Has w W w.heap.size 10 0 → Calls Try.prog 13 #[.pointer (some ⟨w.heap.size, 0, none⟩)] W fun e w' => e = .returned (.int .i64 0) ∧ W = w') := Lib.hid (fun W h => hleft_any h)
  have HE : Hid (∀ W, Has w W w.heap.size 10 0 → Below w.heap.size w W) := Lib.hid (fun W h => h.bel)
  generalize Has w = Z at *
  generalize Below w.heap.size w = B at *
  generalize w.heap.size = g at *
  go_enter Try.func16, Try.ntmps16
  go_wp2_with fail
  refine (CN.out).mono ?_; rintro e w1 ⟨rfl, hZ⟩
  go_wp2_with fail
  refine (CA.out _ hZ).mono ?_; rintro e w2 ⟨rfl, hZ⟩
  go_wp2_with fail
  refine (CT.out _ hZ).mono ?_; rintro e w3 ⟨rfl, hZ⟩
  go_wp2_with fail
  refine (C1.out _ hZ).mono ?_; rintro e w4 ⟨rfl, hZ⟩
  go_wp2_with fail
  refine (C2.out _ hZ).mono ?_; rintro e w5 ⟨rfl, hZ⟩
  go_wp2_with fail
  refine (C3.out _ hZ).mono ?_; rintro e w6 ⟨rfl, hZ⟩
  go_wp2_with fail
  refine (C4.out _ hZ).mono ?_; rintro e w7 ⟨rfl, hZ⟩
  go_wp2_with fail
  refine (C5.out _ hZ).mono ?_; rintro e w' ⟨rfl, rfl⟩
  go_wp2_with fail
  go_ret
  exact ⟨rfl, HE.out _ hZ⟩
end Go.Proofs.Ytogdbdpncnnjbaa.Slw
