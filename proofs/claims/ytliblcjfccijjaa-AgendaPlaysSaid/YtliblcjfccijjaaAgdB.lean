/- Contracts of package agenda (layer 8) at int64: ahead, swap, next. -/
import Derived.Test.YtliblcjfccijjaaAgdA
import Derived.Test.YtliblcjfccijjaaProg
import Derived.WalkKit
import Derived.ProofKit
import Derived.OpenShut
import Derived.Below
import Derived.Lib.Hide
import Derived.Lib.Small
import Derived.TacticsInMore
import Derived.Handy
import Derived.BigRegion
import Derived.Deep.Cut
import Derived.Deep.RegionHeld3
import Derived.Deep.RegionHeldLaw
namespace Go.Proofs.Ytliblcjfccijjaa.AgdL
open Go.ChangeShapes Go.WideShapes Go.ChangeAt Go.RowKit
open Go.Proofs.Ytliblcjfccijjaa.Rw Go.Proofs.Ytliblcjfccijjaa.Agd
set_option linter.unusedVariables false
set_option linter.unusedSimpArgs false
abbrev RowL (w : World) (g b : Nat) (most : Int) (add cap : Nat) (l : List Th) : Prop := Row 100 102 w g b most add cap l
theorem ahead_any (g b : Nat) (most : Int) (add cap : Nat) (l : List Th) (w : World) (h : RowL w g b most add cap l) (i j : Nat) (hi : i < l.length) (hj : j < l.length) :
    Calls Try.prog 72 #[.pointer (some ⟨b, i * 3, none⟩), .pointer (some ⟨b, j * 3, none⟩)] w fun e w' => e = .returned (.bool (bef (gt l i) (gt l j))) ∧ Below w.heap.size w w' := by
  obtain ⟨a0, a1, a2⟩ := h.at_ hi
  obtain ⟨b0, b1, b2⟩ := h.at_ hj
  have HB := Lib.hid ((Below.refl w.heap.size w).drew)
  have HB2 := Lib.hid (((Below.refl w.heap.size w).drew).drew)
  clear h
  unfold bef
  generalize gt l i = x at *
  generalize gt l j = y at *
  obtain ⟨d1, n1, x1⟩ := x
  obtain ⟨d2, n2, x2⟩ := y
  simp only at *
  by_cases hd : d1 = d2
  · rw [if_pos hd]
    subst hd
    go_enter Try.func72, Try.ntmps72
    go_wp2_with fail
    go_region
    go_wp2_with fail
    go_region
    go_wp2_with fail
    go_returns
    exact ⟨by simp, HB2.out⟩
  · rw [if_neg hd]
    go_enter Try.func72, Try.ntmps72
    go_wp2_with fail
    go_region
    go_wp2_with fail
    go_region
    go_wp2_with fail
    go_returns
    exact ⟨by simp, HB2.out⟩
theorem swap_any (g b : Nat) (most : Int) (add cap : Nat) (l : List Th) (w : World) (h : RowL w g b most add cap l) (i j : Nat) (hi : i < l.length) (hj : j < l.length) :
    Calls Try.prog 73 #[.pointer (some ⟨g, 0, none⟩), .int .i64 i, .int .i64 j] w fun e w' => e = .returned (.tuple #[]) ∧ RowL w' g b most add cap (swp l i j) ∧ Stay (fun k => k = b) w w' := by
  obtain ⟨a0, a1, a2⟩ := h.at_ hi
  obtain ⟨b0, b1, b2⟩ := h.at_ hj
  obtain ⟨c0, c1, c2⟩ := h.cells
  have f0 := h.free
  obtain ⟨hn1, hn2⟩ := h.len
  have hne := h.ne
  unfold maxLen at hn2
  have HP : Hid (∀ W, W = (putT (putT w b i (gt l j)) b j (gt l i)).drew ∨ W = (putT (putT w b j (gt l i)) b i (gt l j)).drew → RowL W g b most add cap (swp l i j) ∧ Stay (fun k => k = b) w W) := Lib.hid (fun W hW => by
    have hd : ∀ (V : World), Stay (fun k => k = b) V V.drew := fun V => Stay.of_below (Below.refl _ _).drew
    rcases hW with rfl | rfl
    · exact ⟨(h.swp hi hj).below (Below.refl _ _).drew, ((putT_stay _ _ _ _).snoc (putT_stay _ _ _ _) (fun k _ e => e)).snoc (hd _) (fun k _ e => e)⟩
    · exact ⟨(h.swp' hi hj).below (Below.refl _ _).drew, ((putT_stay _ _ _ _).snoc (putT_stay _ _ _ _) (fun k _ e => e)).snoc (hd _) (fun k _ e => e)⟩)
  clear h
  generalize hn : l.length = n at *
  by_cases hij : i = j
  · subst hij
    generalize swp l i i = l2 at *
    generalize gt l i = x at *
    obtain ⟨d1, n1, x1⟩ := x
    unfold putT at HP
    simp only at *
    clear b0 b1 b2
    go_enter Try.func73, Try.ntmps73
    go_upto_region 0 with fail
    go_region
    go_wp2_with fail
    go_returns
    exact ⟨rfl, HP.out _ (by first | exact .inl rfl | exact .inr rfl)⟩
  · have hH := Lib.hid hij
    clear hij
    generalize swp l i j = l2 at *
    generalize gt l i = x at *
    generalize gt l j = y at *
    obtain ⟨d1, n1, x1⟩ := x
    obtain ⟨d2, n2, x2⟩ := y
    unfold putT at HP
    simp only at *
    have e0 : ¬ (i * 3 = j * 3) := by have := hH.out; omega
    have e0' : ¬ (j * 3 = i * 3) := by have := hH.out; omega
    have e1 : ¬ (i * 3 = j * 3 + 1) := by have := hH.out; omega
    have e1' : ¬ (j * 3 + 1 = i * 3) := by have := hH.out; omega
    have e2 : ¬ (i * 3 = j * 3 + 2) := by have := hH.out; omega
    have e2' : ¬ (j * 3 + 2 = i * 3) := by have := hH.out; omega
    have e3 : ¬ (i * 3 + 1 = j * 3) := by have := hH.out; omega
    have e3' : ¬ (j * 3 = i * 3 + 1) := by have := hH.out; omega
    have e4 : ¬ (i * 3 + 1 = j * 3 + 1) := by have := hH.out; omega
    have e4' : ¬ (j * 3 + 1 = i * 3 + 1) := by have := hH.out; omega
    have e5 : ¬ (i * 3 + 1 = j * 3 + 2) := by have := hH.out; omega
    have e5' : ¬ (j * 3 + 2 = i * 3 + 1) := by have := hH.out; omega
    have e6 : ¬ (i * 3 + 2 = j * 3) := by have := hH.out; omega
    have e6' : ¬ (j * 3 = i * 3 + 2) := by have := hH.out; omega
    have e7 : ¬ (i * 3 + 2 = j * 3 + 1) := by have := hH.out; omega
    have e7' : ¬ (j * 3 + 1 = i * 3 + 2) := by have := hH.out; omega
    have e8 : ¬ (i * 3 + 2 = j * 3 + 2) := by have := hH.out; omega
    have e8' : ¬ (j * 3 + 2 = i * 3 + 2) := by have := hH.out; omega
    go_enter Try.func73, Try.ntmps73
    go_upto_region 0 with fail
    go_region
    go_wp2_with fail
    go_returns
    exact ⟨rfl, HP.out _ (by first | exact .inl rfl | exact .inr rfl)⟩
end Go.Proofs.Ytliblcjfccijjaa.AgdL
