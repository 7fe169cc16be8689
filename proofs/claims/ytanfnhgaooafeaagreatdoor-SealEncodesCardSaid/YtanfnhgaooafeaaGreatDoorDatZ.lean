/- DatM DatO, laid into one. -/
import Derived.Test.YtanfnhgaooafeaaGreatDoorBufX
import Derived.Test.YtanfnhgaooafeaaGreatDoorHedX
import Derived.Test.YtanfnhgaooafeaaGreatDoorDatX
/-! DatM -/
namespace Go.Proofs.YtanfnhgaooafeaaGreatDoor.Dat
open Go.ChangeShapes Go.WideShapes Go.ChangeAt Go.RowKit
open Go.Proofs.YtanfnhgaooafeaaGreatDoor.Byt Go.Proofs.YtanfnhgaooafeaaGreatDoor.Buf
set_option linter.unusedVariables false
set_option linter.unusedSimpArgs false
theorem run_append_room0 {W : World} (k : Nat) (ao : Option Addr) (c : Nat) (ty : TypeId) : (Builtin.append_ #[25, 25] ty #[.slice (some ⟨k, 0, none⟩) 0 0, .slice ao 0 c]).run Tryz.prog W = .ok (.slice (some ⟨k, 0, none⟩) 0 0) W := by
  obtain ⟨i0, hi, hz0, hz1, hz2⟩ := info_parts infoByte
  have hu : Tryz.prog.underlying 25 = some (.slice 5) := Tryz.underlying25
  cases ao with
  | none => simp [Builtin.append_, run_underlying hu, sizeOf, typeInfo, hi, Builtin.lenOf, run_firstCells_none, storeCells]
  | some a =>
    have hf := run_firstCells_some (P := Tryz.prog) W i0.size 0 a 0 c [] (by simp) (by simp)
    simp [Builtin.append_, run_underlying hu, sizeOf, typeInfo, hi, Builtin.lenOf, hf, storeCells]
theorem step_app1 {ops : Array Oper} {o : Oper} {a : Act} {K : Act → World → Prop} {Q : Exit → Act → World → Prop} {E : Prop} {W : World} (hgd : o.guard = none) (s x : Operand)
    (ho : o.op = .call { callee := .builtin .append, args := #[s, x], argTypes := #[25, 25] })
    (k : Nat) (hs : a.eval s = .slice (some ⟨k, 0, none⟩) 0 0) (ad : Option Addr) (n c : Nat) (m : List UInt8) (hx : a.eval x = .slice ad n c) (hn : n = m.length) (hrd : RdB W ad m) (hk : k < W.heap.size) (hlen : n ≤ 1000000)
    (h : ∀ ad' cap' w1, RdS w1 w1.heap.size ad' n cap' m → Below W.heap.size W w1 → (m = [] ∨ OwnB w1 W.heap.size (.slice ad' n cap') m) → K (a.put o.dst (.slice ad' n cap')) w1) :
    if Region.wanted o (yielded ops a.tmps) = true then Oper.wp Tryz.prog o a W K Q else E := by
  have hw : Region.wanted o (yielded ops a.tmps) = true := by simp [Region.wanted, hgd]
  rw [if_pos hw]
  by_cases h0 : n = 0
  · subst h0
    obtain rfl : m = [] := List.eq_nil_of_length_eq_zero hn.symm
    have hrun := run_append_room0 (W := W) k ad c o.type
    unfold Oper.wp
    simp [execOp, ho, resolve, invoke, builtin, hs, hx, hrun, Result.andThen]
    exact h (some ⟨k, 0, none⟩) 0 W ⟨rfl, .inl rfl, ⟨fun e => (by cases e), .inr ⟨k, 0, rfl, hk⟩⟩, Nat.le_refl _, by omega⟩ (Below.refl _ _) (.inl rfl)
  · obtain ⟨i0, hi, hz0, hz1, hz2⟩ := info_parts infoByte
    obtain ⟨adr, rfl⟩ : ∃ adr, ad = some adr := by
      rcases hrd with h' | ⟨b, off, e, -⟩
      · rw [h'] at hn; exact absurd hn h0
      · exact ⟨_, e⟩
    obtain ⟨v', w1, hrun, r1, r2⟩ := run_append_arg_grows (P := Tryz.prog) (w := W) 25 o.type 5 i0 (.int .u8 0) 1 1 Tryz.underlying25 hi hz0 hz1 hz2 rfl (by decide) ⟨k, 0, none⟩ 0 0 [] (by simp) (by simp) adr n c (bvs m) (by rw [bvs_len, Nat.mul_one, hn]) (RdB.cells hrd adr rfl) (by omega) (by unfold maxLen; omega) (by omega)
    have hr1 : OwnB w1 W.heap.size v' m := by
      unfold OwnB
      rw [← hn]
      simpa using r1
    obtain ⟨ad', cap', e, -⟩ := Own.shape hr1
    rw [← hn] at e
    subst e
    unfold Oper.wp
    simp [execOp, ho, resolve, invoke, builtin, hs, hx, hrun, Result.andThen]
    exact h ad' cap' w1 ⟨hn.symm, hr1.rd.1, own_lies hr1, by rw [hn]; exact hr1.pos.1, by have := hr1.pos.2.1; unfold maxLen at this; omega⟩ ⟨r2.os, r2.tape, r2.output, r2.size, fun k hk => r2.block k hk (by simp)⟩ (.inr hr1)
theorem step_app0 {ops : Array Oper} {o : Oper} {a : Act} {K : Act → World → Prop} {Q : Exit → Act → World → Prop} {E : Prop} {W : World} (hgd : o.guard = none) (s x : Operand)
    (ho : o.op = .call { callee := .builtin .append, args := #[s, x], argTypes := #[25, 25] })
    (k : Nat) (hs : a.eval s = .slice (some ⟨k, 0, none⟩) 0 0) (ad : Option Addr) (n c : Nat) (m : List UInt8) (hx : a.eval x = .slice ad n c) (hn : n = m.length) (hrd : RdB W ad m) (hk : k < W.heap.size) (hlen : n ≤ 1000000)
    (h : ∀ ad' cap' w1, RdS w1 w1.heap.size ad' n cap' m → Below W.heap.size W w1 → K (a.put o.dst (.slice ad' n cap')) w1) :
    if Region.wanted o (yielded ops a.tmps) = true then Oper.wp Tryz.prog o a W K Q else E :=
  step_app1 hgd s x ho k hs ad n c m hx hn hrd hk hlen fun ad' cap' w1 h1 h2 _ => h ad' cap' w1 h1 h2
/-- Bytes that may be read stay where a packet's box is written. -/
theorem rds_far {W V V' : World} {G G' g n cap : Nat} {ad : Option Addr} {l : List UInt8} (p : Hed.Pk) (h : RdS W G ad n cap l) (hk : ∀ b, b < G → V.heap[b]? = W.heap[b]?) (hG : G ≤ G') (hb : Blk V g 27 p.cells) (ha : Away g V V') : RdS V' G' ad n cap l := by
  have h1 := h.kept hk
  exact ⟨h1.len_, Hed.rd_other p h1.rd hb ha.block, h1.lies.mono hG, h1.le, h1.max⟩
end Go.Proofs.YtanfnhgaooafeaaGreatDoor.Dat
/-! DatO -/
namespace Go.Proofs.YtanfnhgaooafeaaGreatDoor.Dat
open Go.ChangeShapes Go.WideShapes Go.ChangeAt Go.RowKit
open Go.Proofs.YtanfnhgaooafeaaGreatDoor.Byt Go.Proofs.YtanfnhgaooafeaaGreatDoor.Buf
set_option linter.unusedVariables false
set_option linter.unusedSimpArgs false
theorem step_app2 {ops : Array Oper} {o : Oper} {a : Act} {K : Act → World → Prop} {Q : Exit → Act → World → Prop} {E : Prop} {W : World} (hgd : o.guard = none) (s x : Operand)
    (ho : o.op = .call { callee := .builtin .append, args := #[s, x], argTypes := #[25, 25] })
    (B : Nat) (v : Value) (l : List UInt8) (hs : a.eval s = v) (hown : OwnB W B v l) (ad : Option Addr) (n c : Nat) (m : List UInt8) (hx : a.eval x = .slice ad n c) (hn : n = m.length) (hrd : RdB W ad m) (hnil : ad = none → c = 0) (hlen : l.length + n ≤ 1000000) (hB : B ≤ W.heap.size)
    (h : ∀ ad' cap' w1, OwnB w1 B (.slice ad' (l ++ m).length cap') (l ++ m) → Below B W w1 → K (a.put o.dst (.slice ad' (l ++ m).length cap')) w1) :
    if Region.wanted o (yielded ops a.tmps) = true then Oper.wp Tryz.prog o a W K Q else E := by
  have hw : Region.wanted o (yielded ops a.tmps) = true := by simp [Region.wanted, hgd]
  rw [if_pos hw]
  obtain ⟨i0, hi, hz0, hz1, hz2⟩ := info_parts infoByte
  have hown' := hown
  unfold OwnB at hown'
  cases ad with
  | none =>
    obtain ⟨rfl, rfl⟩ := nil_none hn.symm hrd hnil rfl
    obtain rfl : m = [] := List.eq_nil_of_length_eq_zero hn.symm
    have hrun := run_append_owned_none (P := Tryz.prog) W B 25 o.type 5 i0 1 Tryz.underlying25 hi v l.length (bvs l) hown'
    obtain ⟨ad', cap', e, -⟩ := Own.shape hown'
    subst e
    unfold Oper.wp
    simp [execOp, ho, resolve, invoke, builtin, hs, hx, hrun, Result.andThen]
    have := h ad' cap' W
    rw [List.append_nil] at this
    exact this hown (Below.refl _ _)
  | some adr =>
    obtain ⟨v', w1, hrun, r1, r2, -, -⟩ := Own.run_append2 (P := Tryz.prog) (w := W) (base := B) (e := 5) (size := 1) 25 o.type i0 (.int .u8 0) 1 Tryz.underlying25 hi hz0 hz1 hz2 rfl (by decide) v l.length (bvs l) hown' adr n c (bvs m) (by rw [bvs_len, Nat.mul_one, hn]) (RdB.cells hrd adr rfl) (bvs_oneCell _) (by unfold maxLen; omega) (by omega) hB
    have ho1 : OwnB w1 B v' (l ++ m) := by
      unfold OwnB
      rw [bvs_append, List.length_append, ← hn]
      exact r1
    obtain ⟨ad', cap', e, -⟩ := Own.shape ho1
    rw [List.length_append, ← hn] at e
    subst e
    unfold Oper.wp
    simp [execOp, ho, resolve, invoke, builtin, hs, hx, hrun, Result.andThen]
    have := h ad' cap' w1 (by rw [List.length_append, ← hn]; exact ho1) ((Below.refl _ _).grown r2 hB fun k e => (own_at hown e).1)
    rw [List.length_append, ← hn] at this
    exact this
end Go.Proofs.YtanfnhgaooafeaaGreatDoor.Dat
