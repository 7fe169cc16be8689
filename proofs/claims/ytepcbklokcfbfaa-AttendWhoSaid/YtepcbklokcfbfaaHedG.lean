/- bytes.Clone, bytes.Equal; a packet without its body (layer 9). -/
import Derived.Test.YtepcbklokcfbfaaHedE
import Derived.Lib.SliceRun
namespace Go.Proofs.Ytepcbklokcfbfaa.Hed
open Go.ChangeShapes Go.WideShapes Go.ChangeAt Go.RowKit Go.Deep
open Go.Proofs.Ytepcbklokcfbfaa.Byt Go.Proofs.Ytepcbklokcfbfaa.Key Go.Proofs.Ytepcbklokcfbfaa.Buf
set_option linter.unusedVariables false
set_option linter.unusedSimpArgs false
set_option maxRecDepth 100000 in
/-- Clone: the same bytes elsewhere; nil of nil. -/
theorem clone_any (ad : Option Addr) (len cap : Nat) (l : List UInt8) (w : World) (hlen : l.length = len) (hle : len ≤ cap) (hm : cap ≤ 140737488355328) (hr : RdB w ad l) (hn : ad = none → cap = 0) :
    Calls Try.prog 35 #[.slice ad len cap] w fun e w' => ∃ ad' cap', e = .returned (.slice ad' len cap') ∧ RdB w' ad' l ∧ Below w.heap.size w w' := by
  cases ad with
  | none =>
    obtain rfl : cap = 0 := hn rfl
    obtain rfl : len = 0 := by omega
    obtain rfl : l = [] := List.eq_nil_of_length_eq_zero hlen
    clear hr hn hlen
    have hq : (binOp .eql 25 (.slice none 0 0) (.slice none 0 0)).run Try.prog w = .ok (.bool true) w := Lib.run_eql_slice_nil w _ _ none 0 0 0 0 Try.underlying25
    go_enter Try.func35, Try.ntmps35
    go_wp2_with fail
    go_ret
    exact ⟨none, 0, rfl, .inl rfl, Below.refl _ _⟩
  | some a =>
    obtain ⟨i0, hi, hz0, hz1, hz2⟩ := info_parts infoByte
    have c0 := Buf.own_zero w
    unfold OwnB at c0
    have hB0 : Below w.heap.size w (w.alloc (.cells #[] 5)) := (Below.refl _ _).alloc (Nat.le_refl _) _
    have c2 := Lib.hid (RdB.cells (hr.below hB0))
    have c3 := Lib.hid hlen
    have HQ : Hid (∀ w1 v m, w1.ownsRow w.heap.size 5 1 v m (bvs [] ++ bvs l) → m = l.length → (w.alloc (.cells #[] 5)).grownBy w1 (some w.heap.size) → ∃ ad' cap', v = .slice ad' len cap' ∧ RdB w1 ad' l ∧ Below w.heap.size w w1) := Lib.hid (fun w1 v m h hm hg => by
      subst hm
      have ho : OwnB w1 w.heap.size v l := h
      obtain ⟨ad', cap', e, _⟩ := Own.shape ho
      subst e
      exact ⟨ad', cap', by rw [hlen], ho.rd.1, hB0.grown hg (by simp) (fun k e => by cases e; exact Nat.le_refl _)⟩)
    clear hlen hr hn
    have hq : (binOp .eql 25 (.slice (some a) len cap) (.slice none 0 0)).run Try.prog w = .ok (.bool false) w := Lib.run_eql_slice_nil w _ _ (some a) len cap 0 0 Try.underlying25
    go_enter Try.func35, Try.ntmps35
    go_wp2_with (at_builtin; refine Own.wpList_append2_any _ rfl _ _ 25 rfl w.heap.size 5 i0 (.int .u8 0) 1 1 Try.underlying25 hi hz0 hz1 hz2 rfl (by decide) (.slice (some ⟨w.heap.size, 0, none⟩) 0 0) 0 _ rfl c0 (some a) len cap (bvs l) rfl (by rw [bvs_len, Nat.mul_one, c3.out]) (fun h => by cases h) c2.out (bvs_oneCell _) (by unfold maxLen; omega) (by omega) (by simp) ?_; intro v' w1 hown hgrow _)
    obtain ⟨ad', cap', rfl, h1, h2⟩ := HQ.out w1 v' _ hown (by rw [c3.out]; simp) hgrow
    clear hown hgrow c0 c2 HQ
    go_wp2_with fail
    go_ret
    exact ⟨_, _, rfl, h1, h2⟩
theorem equal_any (a b : Option Addr) (c1 c2 : Nat) (l m : List UInt8) (w : World) (h1 : RdB w a l) (h2 : RdB w b m) :
    Calls Try.prog 43 #[.slice a l.length c1, .slice b m.length c2] w fun e w' => e = .returned (.bool (strB l == strB m)) ∧ w = w' := by
  have S1 := run_str_any (cap := c1) h1 rfl
  have S2 := run_str_any (cap := c2) h2 rfl
  clear h1 h2
  generalize strB l = sl at *
  generalize strB m = sm at *
  go_enter Try.func43, Try.ntmps43
  go_wp2_with fail
  go_ret
  exact ⟨by rw [beq_toListBytes]; rfl, rfl⟩
/-- A packet without its body. -/
def fval (p : Pk) : Value := .agg #[.int .i64 p.kind, .int .i64 p.hops, .int .i64 p.key.1, .int .i64 p.key.2.1, .int .u32 p.key.2.2, .int .i64 p.no, .int .i64 p.stamp, .int .i64 p.value, .int .i64 p.to, .int .i64 p.index, .int .i64 p.total]
theorem flatten_any (p : Pk) (w : World) :
    Calls Try.prog 42 #[pval p] w fun e w' => e = .returned (fval p) ∧ Below w.heap.size w w' := by
  have HB : Hid (∀ o o', Below w.heap.size w ((w.alloc o).alloc o')) := Lib.hid (fun o o' => ((Below.refl _ _).alloc (Nat.le_refl _) o).alloc (by simp) o')
  obtain ⟨kind, ⟨t, f, s⟩, hops, no, to, index, total, stamp, value, ad, cap, body⟩ := p
  unfold pval Pk.cells fval
  go_enter Try.func42, Try.ntmps42
  go_wp2_with fail
  go_returns
  exact ⟨rfl, HB.out _ _⟩
end Go.Proofs.Ytepcbklokcfbfaa.Hed
