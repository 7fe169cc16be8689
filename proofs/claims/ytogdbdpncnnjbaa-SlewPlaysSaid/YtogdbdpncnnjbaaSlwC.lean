/- A correction and the document's own side by side (layer 21). -/
import Derived.Test.YtogdbdpncnnjbaaSlwB
namespace Go.Proofs.Ytogdbdpncnnjbaa.Slw
open Go.ChangeShapes Go.WideShapes Go.ChangeAt Go.RowKit
open Go.Proofs.Ytogdbdpncnnjbaa.Rw
set_option linter.unusedVariables false
/-- A correction, and beside it a box with the document's own. -/
structure Two (w W : World) (g e : Nat) (m v l r : Int) : Prop where
  hv : sgV m = v
  has : Has w W g m l
  ge : w.heap.size ≤ e
  box : Blk W e 26 #[.int .i64 r, .int .i64 v]
theorem Two.on {w W W' : World} {g e : Nat} {m v l r : Int} (h : Two w W g e m v l r) (p : Below W.heap.size W W') : Two w W' g e m v l r := ⟨h.hv, h.has.on p, h.ge, h.box.below p⟩
theorem Two.to {w W W' : World} {g e : Nat} {m v l l' r : Int} (h : Two w W g e m v l r) (p : AimPost g m l' W W') (h0 : -1152921504606846976 ≤ l') (h1 : l' ≤ 1152921504606846976) : Two w W' g e m v l' r :=
  ⟨h.hv, h.has.to p h0 h1, h.ge, h.box.stay p.2 (fun he => h.box.ne h.has.box (by decide) he)⟩
theorem Two.put {w W : World} {g e : Nat} {m v l r : Int} (h : Two w W g e m v l r) (r' : Int) : Two w ((W.setCell ⟨e, 0, none⟩ (.int .i64 r')).setCell ⟨e, 1, none⟩ (.int .i64 v)) g e m v l r' := by
  have hne : g ≠ e := h.has.box.ne h.box (by decide)
  refine ⟨h.hv, ⟨h.has.ge, (h.has.box.far (p := ⟨e, 0, none⟩) hne _).far (p := ⟨e, 1, none⟩) hne _, (h.has.bel.setCell h.ge _).setCell h.ge _, h.has.lo, h.has.hi⟩, h.ge, ?_⟩
  exact (h.box.put 0 _).put 1 _
theorem Two.begin {w W : World} {g : Nat} {m l v : Int} (h : Has w W g m l) (hv : sgV m = v) (r : Int) : Two w (W.alloc (.cells #[.int .i64 r, .int .i64 v] 26)) g W.heap.size m v l r :=
  ⟨hv, h.on ((Below.refl _ _).alloc (Nat.le_refl _) _), h.bel.size, Blk.new _ _ _⟩
theorem taim_any {w W : World} {g e : Nat} {m v l r : Int} (c : Int) (h : Two w W g e m v l r) :
    Calls Try.prog 11 #[.pointer (some ⟨g, 0, none⟩), .int .i64 c] W fun x w' => x = .returned (.tuple #[]) ∧ Two w w' g e m v (saV c) r :=
  (saim_any g m l c W h.has.box).mono fun x w' ⟨he, h1⟩ => ⟨he, h.to h1 (sa_bd c).1 (sa_bd c).2⟩
theorem tstep_any {w W : World} {g e : Nat} {m v l r : Int} (i : Int) (h : Two w W g e m v l r) :
    Calls Try.prog 10 #[.pointer (some ⟨g, 0, none⟩), .int .i64 i] W fun x w' => x = .returned (.int .i64 (siV i + smV v l (siV i))) ∧ Two w w' g e m v (l - smV v l (siV i)) r := by
  have hv := h.hv
  subst hv
  refine (sstep_any g m l i W h.has.box h.has.lo h.has.hi).mono fun x w' ⟨he, h1⟩ => ⟨he, ?_⟩
  obtain ⟨m0, m1, m2, m3, m4⟩ := sm_bd (l := l) (sg_bd m).1 (si_bd i).1
  have := h.has.lo
  have := h.has.hi
  exact h.to h1 (by omega) (by omega)
theorem tticks_any {w W : World} {g e : Nat} {m v l r : Int} (h : Two w W g e m v l r) :
    Calls Try.prog 14 #[.pointer (some ⟨g, 0, none⟩)] W fun x w' => x = .returned (.int .i64 (stV v l)) ∧ Below W.heap.size W w' := by
  have hv := h.hv
  subst hv
  exact sticks_any g m l W h.has.box h.has.lo h.has.hi
theorem tleft_any {w W : World} {g e : Nat} {m v l r : Int} (h : Two w W g e m v l r) :
    Calls Try.prog 13 #[.pointer (some ⟨g, 0, none⟩)] W fun x w' => x = .returned (.int .i64 l) ∧ W = w' :=
  sleft_any g m l W h.has.box
end Go.Proofs.Ytogdbdpncnnjbaa.Slw
