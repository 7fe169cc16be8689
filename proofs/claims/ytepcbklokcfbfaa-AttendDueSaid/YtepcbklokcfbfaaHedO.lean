/- A head as bytes, the document's own (layer 9): Bytes. An append as one step (for every layer with []byte). -/
import Derived.Test.YtepcbklokcfbfaaHedI
import Derived.Test.YtepcbklokcfbfaaHedD
namespace Go.Proofs.Ytepcbklokcfbfaa.Hed
open Go.ChangeShapes Go.WideShapes Go.ChangeAt Go.RowKit Go.Deep
open Go.Proofs.Ytepcbklokcfbfaa.Byt Go.Proofs.Ytepcbklokcfbfaa.Key Go.Proofs.Ytepcbklokcfbfaa.Buf Go.Proofs.Ytepcbklokcfbfaa.BufM
set_option linter.unusedVariables false
set_option linter.unusedSimpArgs false
/-- append(s, x...) of bytes. -/
theorem app_step {W : World} {ops : Array Oper} {rest : List Oper} {o : Oper} {a : Act} {Q : Exit → Act → World → Prop} (hgd : o.guard = none) (s x : Operand)
    (ho : o.op = .call { callee := .builtin .append, args := #[s, x], argTypes := #[25, 25] })
    (B : Nat) (ad1 : Option Addr) (n1 cap1 : Nat) (l : List UInt8) (hs : a.eval s = .slice ad1 n1 cap1) (hown : OwnB W B (.slice ad1 n1 cap1) l)
    (ad2 : Option Addr) (n2 cap2 : Nat) (m : List UInt8) (hx : a.eval x = .slice ad2 n2 cap2) (hn2 : n2 = m.length) (hrd : RdB W ad2 m) (hnil : ad2 = none → cap2 = 0) (hlen : l.length + m.length ≤ 1000000) (hB : B ≤ W.heap.size)
    (h : ∀ l' ad' cap' w1, Hid (l' = l ++ m) → OwnB w1 B (.slice ad' l'.length cap') l' → Below B W w1 → (∀ k, k < W.heap.size → B ≤ k → some k ≠ (Value.slice ad1 n1 cap1).ownBlock → w1.heap[k]? = W.heap[k]?) → wpList Try.prog ops Q rest (a.put o.dst (.slice ad' l'.length cap')) w1) :
    wpList Try.prog ops Q (o :: rest) a W := by
  obtain ⟨i0, hi, hz0, hz1, hz2⟩ := info_parts infoByte
  obtain rfl : n1 = l.length := hown.rd.2
  have hown' := hown
  unfold OwnB at hown'
  refine Own.wpList_append2_any _ hgd s x 25 ho B 5 i0 (.int .u8 0) 1 1 Try.underlying25 hi hz0 hz1 hz2 rfl (by decide) (.slice ad1 l.length cap1) l.length (bvs l) hs hown' ad2 n2 cap2 (bvs m) hx (by rw [bvs_len, Nat.mul_one, hn2]) (nil_none hn2.symm hrd hnil) (RdB.cells hrd) (bvs_oneCell _) (by unfold maxLen; omega) (by omega) hB ?_
  intro v' w1 h1 h2 h3
  rw [← bvs_append, hn2, ← List.length_append] at h1
  have ho1 : OwnB w1 B v' (l ++ m) := h1
  obtain ⟨ad', cap', rfl, -⟩ := Own.shape ho1
  refine h _ ad' cap' w1 (Lib.hid rfl) ho1 ((Below.refl _ _).grown h2 hB fun k e => (own_at hown e).1) fun k hk _ hne => h2.block k hk hne
/-- Bytes that are written beside a box of the call's own. -/
structure AS (w : World) (bp : Nat) (cs : Array Value) (ad : Option Addr) (cap : Nat) (l : List UInt8) (W : World) : Prop where
  box : Blk W bp 27 cs
  own : OwnB W (bp + 1) (.slice ad l.length cap) l
  below : Below bp w W
theorem AS.kept {w W V : World} {bp : Nat} {cs : Array Value} {ad : Option Addr} {cap : Nat} {l : List UInt8} (h : AS w bp cs ad cap l W) (hB : Below W.heap.size W V) : AS w bp cs ad cap l V :=
  ⟨h.box.below hB, h.own.below hB, h.below.trans (hB.mono (Nat.le_of_lt h.box.lt))⟩
theorem AS.step {w W V w1 : World} {bp : Nat} {cs : Array Value} {ad ad' : Option Addr} {cap cap' : Nat} {l l' : List UInt8} (h : AS w bp cs ad cap l W) (hB : Below W.heap.size W V)
    (h1 : OwnB w1 (bp + 1) (.slice ad' l'.length cap') l') (h2 : Below (bp + 1) V w1) : AS w bp cs ad' cap' l' w1 :=
  ⟨(h2.block bp (by omega)).trans (h.box.below hB), h1, (h.kept hB).below.trans (h2.mono (by omega))⟩
theorem AS.size {w W : World} {bp : Nat} {cs : Array Value} {ad : Option Addr} {cap : Nat} {l : List UInt8} (h : AS w bp cs ad cap l W) : bp + 1 ≤ W.heap.size := h.box.lt
theorem kb_mod (x : Int) : bv (kb x) = .int .u8 (x % 256) := by rw [kb_bv, IntKind.wrap_u8]
/-- A head's bytes. -/
def headB (p : Pk) : List UInt8 := if flo p.kind then [kb p.kind] ++ [kb p.hops] ++ sev (un p.key.1) ++ [kb p.key.2.1] ++ fixB (un p.key.2.2) 4 else [kb p.kind]
end Go.Proofs.Ytepcbklokcfbfaa.Hed
