/- Layer 28: a watch of the call's own, handed on by each call; the example; what nil tells. -/
import Derived.Test.YtmkdemdeejhonaaDoorDrfF
import Derived.Test.YtmkdemdeejhonaaDoorI64A
namespace Go.Proofs.YtmkdemdeejhonaaDoor.Drf
open Go.RowKit Go.ChangeShapes Go.WideShapes Go.ChangeAt
open Go.Proofs.YtmkdemdeejhonaaDoor.Rw
open Nodes (Tabs mem mem_mem)
set_option linter.unusedVariables false
/-- A watch of the call's own. -/
structure On (w : World) (g : Nat) (a : Wt) (W : World) : Prop where
  wc : WC W g a
  tabs : Tabs W
  below : Below w.heap.size w W
  own : w.heap.size ≤ g
theorem On.later {w W W' : World} {g : Nat} {a : Wt} (h : On w g a W) (hB : Below W.heap.size W W') : On w g a W' :=
  ⟨h.wc.below hB, h.tabs.below hB, h.below.trans (hB.mono h.below.size), h.own⟩
theorem On.set {w W W' : World} {g : Nat} {a c : Wt} (h : On w g a W) (hs : SetW g c W W') : On w g c W' :=
  ⟨hs.1, tabs_stay h.tabs hs.2 (watch_tab h.wc h.tabs), h.below.trans (hs.2.below (fun k e => by cases e; exact h.own) h.below.size), h.own⟩
theorem on_new (eps slow fast : Int) (w W : World) (hB : Below w.heap.size w W) (hT : Tabs W) :
    Calls Tryd.prog 6 #[.int .i64 eps, .int .i64 slow, .int .i64 fast] W fun e w' => ∃ g, e = .returned (.pointer (some ⟨g, 0, none⟩)) ∧ On w g (wt0 eps slow fast) w' ∧ Below W.heap.size W w' :=
  (new_any eps slow fast W).mono (fun e w' h => by
    obtain ⟨g, h1, h2, h3, h4⟩ := h
    exact ⟨g, h1, ⟨h2, hT.below h4, hB.trans (h4.mono hB.size), Nat.le_trans hB.size h3⟩, h4⟩)
theorem on_note (g : Nat) (a : Wt) (tick : Int) (ad : Option Addr) (cap : Nat) (l : List Int) (S : Nat) (hS : S < 18446744073709551616) (hS' : a.n.set < 18446744073709551616) (hap : a.apart < 1000000) (hpc : a.pace < 1000000)
    (w W : World) (h : On w g a W) (hl : I64s.Sl W ad cap l) :
    Calls Tryd.prog 9 #[.pointer (some ⟨g, 0, none⟩), .int .i64 tick, .slice ad l.length cap, .int .u64 (S : Int)] W fun e w' => e = .returned (.bool (noteB a ⟨tick, l, S⟩)) ∧ On w g (nextW a ⟨tick, l, S⟩) w' :=
  (note_any g a tick ad cap l S hS hS' hap hpc W h.wc hl h.tabs).mono (fun e w' hw => ⟨hw.1, h.set hw.2⟩)
theorem lit_sl (W : World) (zs : List Int) (hm : zs.length ≤ 9223372036854775807) : I64s.Sl (W.alloc (.cells (zs.map (Value.int .i64)).toArray 2)) (some ⟨W.heap.size, 0, none⟩) zs.length zs := by
  refine ⟨.inr ⟨W.heap.size, 0, rfl, fun i hi => ?_⟩, Nat.le_refl _, hm, fun h => by cases h⟩
  rw [Nat.zero_add, (Blk.new W 2 (zs.map (Value.int .i64)).toArray).cell i]
  simp [hi]
theorem on_lit (g : Nat) (a : Wt) (tick : Int) (zs : List Int) (hm : zs.length ≤ 9223372036854775807) (S : Nat) (hS : S < 18446744073709551616) (hS' : a.n.set < 18446744073709551616) (hap : a.apart < 1000000) (hpc : a.pace < 1000000)
    (w W : World) (h : On w g a W) :
    Calls Tryd.prog 9 #[.pointer (some ⟨g, 0, none⟩), .int .i64 tick, .slice (some ⟨W.heap.size, 0, none⟩) zs.length zs.length, .int .u64 (S : Int)] (W.alloc (.cells (zs.map (Value.int .i64)).toArray 2)) fun e w' => e = .returned (.bool (noteB a ⟨tick, zs, S⟩)) ∧ On w g (nextW a ⟨tick, zs, S⟩) w' :=
  on_note g a tick _ _ zs S hS hS' hap hpc w _ (h.later ((Below.refl _ _).alloc (Nat.le_refl _) _)) (lit_sl W zs hm)
/-- The example's watches. -/
def n1 : Nt := ⟨1, [5, 9], 3⟩
def n2 : Nt := ⟨2, [8, 10], 3⟩
def n3 : Nt := ⟨3, [8, 12], 3⟩
def x0 : Wt := wt0 10 1 3
def x1 : Wt := nextW x0 n1
def x2 : Wt := nextW x1 n2
def x3 : Wt := nextW x2 n3
theorem b1_ex : noteB x0 n1 = true := by decide +kernel
theorem b2_ex : noteB x1 n2 = true := by decide +kernel
theorem b3_ex : noteB x2 n3 = false := by decide +kernel
theorem r1_ex : x1.n.set < 18446744073709551616 ∧ x1.apart < 1000000 ∧ x1.pace < 1000000 := by decide +kernel
theorem r2_ex : x2.n.set < 18446744073709551616 ∧ x2.apart < 1000000 ∧ x2.pace < 1000000 := by decide +kernel
theorem r3_ex : x3.gap = 4 ∧ x3.tick = 1 ∧ x3.apart = 0 ∧ x3.pace = 1 ∧ fineB x3 = false := by decide +kernel
set_option maxRecDepth 100000 in
theorem works28_any (w : World) (hT : Tabs w) :
    Calls Tryd.prog 14 #[] w fun e w' => e = .returned (.bool true) ∧ Below w.heap.size w w' := by
  have C0 := Lib.hid (fun W hB hT => on_new 10 1 3 w W hB hT)
  have C1 := Lib.hid (fun g W (h : On w g x0 W) => show Calls Tryd.prog 9 #[.pointer (some ⟨g, 0, none⟩), .int .i64 1, .slice (some ⟨W.heap.size, 0, none⟩) 2 2, .int .u64 3] (W.alloc (.cells #[.int .i64 5, .int .i64 9] 2)) fun e w' => e = .returned (.bool true) ∧ On w g x1 w' from by
    have := on_lit g x0 1 [5, 9] (by decide) 3 (by decide) (by decide) (by decide) (by decide) w W h
    rw [show (⟨1, [5, 9], 3⟩ : Nt) = n1 from rfl, b1_ex] at this
    exact this)
  have C2 := Lib.hid (fun g W (h : On w g x1 W) => show Calls Tryd.prog 9 #[.pointer (some ⟨g, 0, none⟩), .int .i64 2, .slice (some ⟨W.heap.size, 0, none⟩) 2 2, .int .u64 3] (W.alloc (.cells #[.int .i64 8, .int .i64 10] 2)) fun e w' => e = .returned (.bool true) ∧ On w g x2 w' from by
    have := on_lit g x1 2 [8, 10] (by decide) 3 (by decide) r1_ex.1 r1_ex.2.1 r1_ex.2.2 w W h
    rw [show (⟨2, [8, 10], 3⟩ : Nt) = n2 from rfl, b2_ex] at this
    exact this)
  have C3 := Lib.hid (fun g W (h : On w g x2 W) => show Calls Tryd.prog 9 #[.pointer (some ⟨g, 0, none⟩), .int .i64 3, .slice (some ⟨W.heap.size, 0, none⟩) 2 2, .int .u64 3] (W.alloc (.cells #[.int .i64 8, .int .i64 12] 2)) fun e w' => e = .returned (.bool false) ∧ On w g x3 w' from by
    have := on_lit g x2 3 [8, 12] (by decide) 3 (by decide) r2_ex.1 r2_ex.2.1 r2_ex.2.2 w W h
    rw [show (⟨3, [8, 12], 3⟩ : Nt) = n3 from rfl, b3_ex] at this
    exact this)
  obtain ⟨e1, e2, e3, e4, e5⟩ := r3_ex
  have CW := Lib.hid (fun g W (h : On w g x3 W) => show Calls Tryd.prog 11 #[.pointer (some ⟨g, 0, none⟩)] W fun e w' => e = .returned (.tuple #[.int .i64 4, .int .i64 1]) ∧ On w g x3 w' from by
    have := worst_any g x3 W h.wc
    rw [e1, e2] at this
    exact this.mono (fun e w' hw => ⟨hw.1, h.later hw.2⟩))
  have CC := Lib.hid (fun g W (h : On w g x3 W) => show Calls Tryd.prog 12 #[.pointer (some ⟨g, 0, none⟩)] W fun e w' => e = .returned (.tuple #[.int .i64 0, .int .i64 1]) ∧ On w g x3 w' from by
    have := dcount_any g x3 W h.wc
    rw [e3, e4] at this
    exact this.mono (fun e w' hw => ⟨hw.1, h.later hw.2⟩))
  have CF := Lib.hid (fun g W (h : On w g x3 W) => show Calls Tryd.prog 13 #[.pointer (some ⟨g, 0, none⟩)] W fun e w' => e = .returned (.bool false) ∧ W = w' from by
    have := fine_any g x3 W h.wc
    rw [e5] at this
    exact this)
  have HT := Lib.hid hT
  clear e1 e2 e3 e4 e5 hT
  go_enter Tryd.func14, Tryd.ntmps14
  go_wp2_with fail
  refine (C0.out _ (Below.refl _ _) HT.out).mono ?_; rintro e wa ⟨g, rfl, H0, -⟩
  have H0 := Lib.hid H0
  go_wp2_with fail
  refine (C1.out g _ H0.out).mono ?_; rintro e wb ⟨rfl, H1⟩
  have H1 := Lib.hid H1
  go_wp2_with fail
  refine (C2.out g _ H1.out).mono ?_; rintro e wc ⟨rfl, H2⟩
  have H2 := Lib.hid H2
  go_wp2_with fail
  refine (C3.out g _ H2.out).mono ?_; rintro e wd ⟨rfl, H3⟩
  have H3 := Lib.hid H3
  go_wp2_with fail
  refine (CW.out g _ H3.out).mono ?_; rintro e we ⟨rfl, H4⟩
  have H4 := Lib.hid H4
  go_wp2_with fail
  refine (CC.out g _ H4.out).mono ?_; rintro e wf ⟨rfl, H5⟩
  have H5 := Lib.hid H5
  go_wp2_with fail
  refine (CF.out g _ H5.out).mono ?_; rintro e w' ⟨rfl, rfl⟩
  go_wp2_with fail
  go_ret
  exact ⟨rfl, H5.out.below⟩
end Go.Proofs.YtmkdemdeejhonaaDoor.Drf
