/- bytes.Clone, bytes.Equal; a packet without its body (layer 9). -/
import Derived.Test.YtjifdbhgoakjpaaHedE
import Derived.Lib.SliceRun
namespace Go.Proofs.Ytjifdbhgoakjpaa.Hed
open Go.ChangeShapes Go.WideShapes Go.ChangeAt Go.RowKit Go.Deep
open Go.Proofs.Ytjifdbhgoakjpaa.Byt Go.Proofs.Ytjifdbhgoakjpaa.Key Go.Proofs.Ytjifdbhgoakjpaa.Buf
set_option linter.unusedVariables false
set_option linter.unusedSimpArgs false
theorem equal_any (a b : Option Addr) (c1 c2 : Nat) (l m : List UInt8) (w : World) (h1 : RdB w a l) (h2 : RdB w b m) :
    Calls Try.prog 51 #[.slice a l.length c1, .slice b m.length c2] w fun e w' => e = .returned (.bool (strB l == strB m)) ∧ w = w' := by
  have S1 := run_str_any (cap := c1) h1 rfl
  have S2 := run_str_any (cap := c2) h2 rfl
  clear h1 h2
  generalize strB l = sl at *
  generalize strB m = sm at *
  go_enter Try.func51, Try.ntmps51
  go_wp2_with fail
  go_ret
  exact ⟨by rw [beq_toListBytes]; rfl, rfl⟩
/-- A packet without its body. -/
def fval (p : Pk) : Value := .agg #[.int .i64 p.kind, .int .i64 p.hops, .int .i64 p.key.1, .int .i64 p.key.2.1, .int .u32 p.key.2.2, .int .i64 p.no, .int .i64 p.stamp, .int .i64 p.value, .int .i64 p.to, .int .i64 p.index, .int .i64 p.total]
theorem flatten_any (p : Pk) (w : World) :
    Calls Try.prog 50 #[pval p] w fun e w' => e = .returned (fval p) ∧ Below w.heap.size w w' := by
  have HB : Hid (∀ o o', Below w.heap.size w ((w.alloc o).alloc o')) := Lib.hid (fun o o' => ((Below.refl _ _).alloc (Nat.le_refl _) o).alloc (by simp) o')
  obtain ⟨kind, ⟨t, f, s⟩, hops, no, to, index, total, stamp, value, ad, cap, body⟩ := p
  unfold pval Pk.cells fval
  go_enter Try.func50, Try.ntmps50
  go_wp2_with fail
  go_returns
  exact ⟨rfl, HB.out _ _⟩
end Go.Proofs.Ytjifdbhgoakjpaa.Hed
