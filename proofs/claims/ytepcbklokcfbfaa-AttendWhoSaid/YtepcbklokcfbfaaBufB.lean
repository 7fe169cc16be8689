/- The writer: what it is in memory, what a call of it touches; New, Byte. -/
import Derived.Test.YtepcbklokcfbfaaBufA
import Derived.Deep.QuietTactic
import Derived.BigQuiet
import Derived.IntWalk
namespace Go.Proofs.Ytepcbklokcfbfaa.Buf
open Go.ChangeShapes Go.WideShapes Go.ChangeAt Go.RowKit
open Go.Proofs.Ytepcbklokcfbfaa.Byt Go.Proofs.Ytepcbklokcfbfaa.Units Go.Proofs.Ytepcbklokcfbfaa.BufM
set_option linter.unusedVariables false

/-- Bytes are written: what is wrong, what was written. -/
def wByte (m : Nat) (s : Int × List UInt8) (b : List UInt8) : Int × List UInt8 :=
  if s.1 ≠ 0 then s else if m - s.2.length < b.length then (4, s.2) else (0, s.2 ++ b)
def wFix (m : Nat) (s : Int × List UInt8) (x : Nat) (n : Int) : Int × List UInt8 := if isW n then wByte m s (fixB x n.toNat) else (if s.1 = 0 then 1 else s.1, s.2)
def wNum (m : Nat) (s : Int × List UInt8) (x : Nat) : Int × List UInt8 := wByte m s (sev x)
def wBytes (m : Nat) (s : Int × List UInt8) (b : List UInt8) : Int × List UInt8 := wByte m (wNum m s b.length) b
theorem wByte_bad {m : Nat} {s : Int × List UInt8} (b : List UInt8) (h : s.1 ≠ 0) : wByte m s b = s := by unfold wByte; rw [if_pos h]
theorem wByte_long {m : Nat} {s : Int × List UInt8} (b : List UInt8) (h : s.1 = 0) (hl : m - s.2.length < b.length) : wByte m s b = (4, s.2) := by unfold wByte; rw [if_neg (by simpa using h), if_pos hl]
theorem wByte_fits {m : Nat} {s : Int × List UInt8} (b : List UInt8) (h : s.1 = 0) (hl : ¬ m - s.2.length < b.length) : wByte m s b = (0, s.2 ++ b) := by unfold wByte; rw [if_neg (by simpa using h), if_neg hl]
theorem wByte_len {m : Nat} {s : Int × List UInt8} (b : List UInt8) : (wByte m s b).2.length ≤ s.2.length + b.length := by
  unfold wByte; split
  · omega
  split
  · simp
  · simp

/-- The writer in memory, from block B on: what is wrong and what was written; the block of the bytes. -/
structure WR (w : World) (B g m : Nat) (s : Int × List UInt8) (row : Option Nat) : Prop where
  ge : B ≤ g
  mem : ∃ v, Blk w g 61 #[.int .i64 s.1, .int .i64 m, v] ∧ OwnB w B v s.2 ∧ v.ownBlock = row
  room : s.2.length ≤ m
  max : m ≤ 9223372036854775807
/-- What a call of the writer touches: its block, its row; a new row is new. -/
structure WStep (w w' : World) (B g : Nat) (row row' : Option Nat) : Prop where
  below : Below B w w'
  block : ∀ k, k < w.heap.size → k ≠ g → some k ≠ row → w'.heap[k]? = w.heap[k]?
  new : row' = row ∨ ∀ k, row' = some k → w.heap.size ≤ k
theorem WStep.refl (w : World) (B g : Nat) (row : Option Nat) : WStep w w B g row row := ⟨Below.refl _ _, fun _ _ _ _ => rfl, .inl rfl⟩
theorem WStep.trans {a b c : World} {B g : Nat} {r0 r1 r2 : Option Nat} (h : WStep a b B g r0 r1) (k : WStep b c B g r1 r2) : WStep a c B g r0 r2 := by
  have hs := h.below.size
  refine ⟨h.below.trans k.below, fun i hi h1 h2 => ?_, ?_⟩
  · rw [k.block i (by omega) h1 ?_, h.block i hi h1 h2]
    rcases h.new with e | e
    · rw [e]; exact h2
    · intro e2; have := e i e2.symm; omega
  · rcases k.new with e | e
    · rw [e]; exact h.new
    · exact .inr fun i hi => by have := e i hi; omega
/-- What makes memory alone, ahead of a call of the writer. -/
theorem WStep.ahead {a b c : World} {B g : Nat} {r0 r1 : Option Nat} (hB : Below a.heap.size a b) (k : WStep b c B g r0 r1) (hle : B ≤ a.heap.size) : WStep a c B g r0 r1 := by
  have hs := hB.size
  refine ⟨(hB.mono hle).trans k.below, fun i hi h1 h2 => ?_, ?_⟩
  · rw [k.block i (by omega) h1 h2, hB.block i hi]
  · rcases k.new with e | e
    · exact .inl e
    · exact .inr fun i hi => by have := e i hi; omega
theorem WR.le {w : World} {B g m : Nat} {s : Int × List UInt8} {row : Option Nat} (h : WR w B g m s row) : B ≤ w.heap.size := by
  obtain ⟨v, hb, _⟩ := h.mem
  have := hb.lt; have := h.ge; omega
theorem WR.kept {w w' : World} {B g m : Nat} {s : Int × List UInt8} {row : Option Nat} (h : WR w B g m s row) (hB : Below w.heap.size w w') : WR w' B g m s row := by
  obtain ⟨v, hb, ho, hr⟩ := h.mem
  exact ⟨h.ge, ⟨v, hb.below hB, ho.below hB, hr⟩, h.room, h.max⟩
/-- The writer stays where other blocks are touched. -/
theorem WR.other {w w' : World} {B g m : Nat} {s : Int × List UInt8} {row : Option Nat} (h : WR w B g m s row) (hs : w.heap.size ≤ w'.heap.size) (hk : ∀ k, k = g ∨ some k = row → w'.heap[k]? = w.heap[k]?) : WR w' B g m s row := by
  obtain ⟨v, hb, ho, hr⟩ := h.mem
  exact ⟨h.ge, ⟨v, (hk g (.inl rfl)).trans hb, own_kept ho hs fun k e => hk k (.inr (by rw [← hr, e])), hr⟩, h.room, h.max⟩
/-- What a call of the writer leaves. -/
def WPost (w : World) (B g m : Nat) (row : Option Nat) (s : Int × List UInt8) (e : Ending) (w' : World) : Prop :=
  e = .returned (.tuple #[]) ∧ ∃ row', WR w' B g m s row' ∧ WStep w w' B g row row'
/-- What a call leaves that makes memory alone and hands nothing back. -/
theorem new_any (most : Int) (h2 : most ≤ 9223372036854775807) (w : World) :
    Calls Try.prog 14 #[.int .i64 most] w fun e w' => e = .returned (.pointer (some ⟨w.heap.size, 0, none⟩)) ∧ WR w' w.heap.size w.heap.size most.toNat (0, []) none ∧ Below w.heap.size w w' ∧ w'.heap.size = w.heap.size + 1 := by
  have key : Hid (∀ x : Int, x = most.toNat → WR (w.alloc (.cells #[.int .i64 0, .int .i64 x, .slice none 0 0] 61)) w.heap.size w.heap.size most.toNat (0, []) none) :=
    Lib.hid (fun x hx => ⟨Nat.le_refl _, ⟨.slice none 0 0, by rw [hx]; exact Blk.new _ _ _, World.ownsRow_nil _ _ _ _, rfl⟩, by simp, by omega⟩)
  go_enter Try.func14, Try.ntmps14
  go_wp2_with fail
  all_goals
    go_returns
    exact ⟨rfl, key.out _ (by omega), (Below.refl _ _).alloc (Nat.le_refl _) _, by simp⟩
theorem byte_no (g B m : Nat) (e : Int) (l0 : List UInt8) (row : Option Nat) (ad : Option Addr) (len cap : Nat) (l : List UInt8) (w : World) (h : WR w B g m (e, l0) row) (he : e ≠ 0) :
    Calls Try.prog 46 #[.pointer (some ⟨g, 0, none⟩), .slice ad len cap] w (WPost w B g m row (e, l0)) := by
  obtain ⟨v, hb, ho, hv⟩ := h.mem
  have c0 := hb.cell 0
  simp at c0
  have hne : (e != 0) = true := by simpa using he
  have HP : Hid (WPost w B g m row (e, l0) (.returned (.tuple #[])) w) := Lib.hid ⟨rfl, row, h, WStep.refl _ _ _ _⟩
  clear h hb ho hv he
  go_enter Try.func46, Try.ntmps46
  go_wp2_with fail
  go_returns
  exact HP.out
theorem byte_long (g B m : Nat) (l0 : List UInt8) (row : Option Nat) (ad : Option Addr) (len cap : Nat) (w : World) (h : WR w B g m (0, l0) row) (hl : m - l0.length < len) (hm : len ≤ 9223372036854775807) :
    Calls Try.prog 46 #[.pointer (some ⟨g, 0, none⟩), .slice ad len cap] w (WPost w B g m row (4, l0)) := by
  obtain ⟨v, hb, ho, hv⟩ := h.mem
  have c0 := hb.cell 0
  have c1 := hb.cell 1
  have c2 := hb.cell 2
  simp at c0 c1 c2
  obtain ⟨rd, rcap, rfl, hshape⟩ := Own.shape ho
  have hroom := h.room
  have hmax := h.max
  simp only at hroom c2
  have HT : Hid (∀ n, Calls Try.prog 52 #[.pointer (some ⟨g, 0, none⟩), .int .i64 4] (w.drewN n) fun en w' => en = .returned (.tuple #[]) ∧ (w.drewN n).setCell ⟨g, 0, none⟩ (.int .i64 4) = w') :=
    Lib.hid fun n => tell_yes g _ _ 4 (w.drewN n) (hb.drewN n) rfl
  have HP : Hid (∀ n, WPost w B g m row (4, l0) (.returned (.tuple #[])) ((w.drewN n).setCell ⟨g, 0, none⟩ (.int .i64 4))) := Lib.hid (fun n => by
    have hne := own_ne ho hb (by decide)
    have hge := h.ge
    refine ⟨rfl, row, ⟨h.ge, ⟨_, (hb.drewN n).put 0 _, own_kept ho (by simp) (fun k hk => ?_), hv⟩, h.room, h.max⟩, ⟨(Own.below_drewN (Below.refl _ _) n).setCell hge _, fun k hk h1 h2 => ?_, .inl rfl⟩⟩
    · exact Below.heap_setCell _ _ _ _ (by rintro rfl; exact hne hk)
    · exact Below.heap_setCell _ _ _ _ h1)
  generalize l0.length = k at *
  have e1 : IntKind.i64.wrap ((m : Int) - (k : Int)) = (m : Int) - (k : Int) := IntWalk.i64_in _ (by omega)
  have ht : (m : Int) - (k : Int) < (len : Int) := by omega
  clear h hb ho hv hl hroom hmax hshape
  go_enter Try.func46, Try.ntmps46
  go_wp2_with fail
  go_quiet (fail)
  clear e1
  go_wp2_with fail
  refine (HT.out _).mono ?_; rintro e w' ⟨rfl, rfl⟩
  go_wp2_with fail
  go_returns
  exact HP.out _
set_option maxRecDepth 100000 in
theorem byte_fits (g B m : Nat) (l0 : List UInt8) (row : Option Nat) (ad : Option Addr) (len cap : Nat) (l : List UInt8) (w : World) (h : WR w B g m (0, l0) row) (hl : ¬ m - l0.length < len)
    (hlen : l.length = len) (hm : l0.length + len ≤ 1000000) (hr : RdB w ad l) (hn : ad = none → cap = 0) :
    Calls Try.prog 46 #[.pointer (some ⟨g, 0, none⟩), .slice ad len cap] w (WPost w B g m row (0, l0 ++ l)) := by
  obtain ⟨i0, hi, hz0, hz1, hz2⟩ := info_parts infoByte
  have hle := h.le
  obtain ⟨v, hb, ho, hv⟩ := h.mem
  have c0 := hb.cell 0
  have c1 := hb.cell 1
  have c2 := hb.cell 2
  have f2 := hb.free 2
  simp at c0 c1 c2
  obtain ⟨rd, rcap, rfl, hshape⟩ := Own.shape ho
  have hroom := h.room
  have hmax := h.max
  simp only at hroom c2
  have c3 := Lib.hid (nil_none hlen hr hn)
  have c4 : Hid (∀ n, _) := Lib.hid (fun n => RdB.cells (show RdB (w.drewN n) ad l from hr))
  have c5 := Lib.hid hlen
  have own : Hid (∀ n, (w.drewN n).ownsRow B 5 1 (.slice rd l0.length rcap) l0.length (bvs l0)) := Lib.hid (fun n => ho)
  have HP : Hid (∀ n w1 v1, w1.ownsRow B 5 1 v1 (l0.length + len) (bvs l0 ++ bvs l) → (w.drewN n).grownBy w1 (Value.slice rd l0.length rcap).ownBlock → (v1.ownBlock = (Value.slice rd l0.length rcap).ownBlock ∨ ∀ k, v1.ownBlock = some k → w.heap.size ≤ k) →
      (w1.cell? ⟨g, 2, none⟩ = some (.slice rd l0.length rcap) ∧ w1.frozen? ⟨g, 2, none⟩ = false) ∧ WPost w B g m row (0, l0 ++ l) (.returned (.tuple #[])) (w1.setCell ⟨g, 2, none⟩ v1)) := Lib.hid (fun n w1 v1 h1 h2 h3 => by
    have hne := own_ne ho hb (by decide)
    have hge := h.ge
    have hb1 : Blk w1 g _ _ := (hb.drewN n).grown h2 (by intro e; exact hne e.symm)
    have h1' : OwnB w1 B v1 (l0 ++ l) := by unfold OwnB; rw [List.length_append, bvs_append, hlen]; exact h1
    have hne1 := own_ne h1' hb1 (by decide)
    have hB1 : Below B (w.drewN n) w1 := (Below.refl _ _).grown h2 hle (fun k e => (own_at ho e).1)
    refine ⟨⟨(hb1.cell 2).trans rfl, hb1.free 2⟩, rfl, v1.ownBlock, ⟨h.ge, ⟨v1, hb1.put 2 _, own_kept h1' (by simp) (fun k hk => ?_), rfl⟩, by simp only [List.length_append]; omega, h.max⟩, ⟨((Own.below_drewN (Below.refl _ _) n).trans hB1).setCell hge _, fun k hk e1 e2 => ?_, ?_⟩⟩
    · exact Below.heap_setCell _ _ _ _ (by rintro rfl; exact hne1 hk)
    · rw [Below.heap_setCell _ _ _ _ e1, h2.block k hk (by rw [hv]; exact e2)]; rfl
    · rw [← hv]; exact h3)
  generalize l0.length = k at *
  have e1 : IntKind.i64.wrap ((m : Int) - (k : Int)) = (m : Int) - (k : Int) := IntWalk.i64_in _ (by omega)
  have ht : (len : Int) ≤ (m : Int) - (k : Int) := by omega
  clear h hb ho hv hl hroom hmax hshape hr hn hlen
  go_enter Try.func46, Try.ntmps46
  go_wp2_with fail
  go_quiet (fail)
  clear e1
  go_wp2_with (at_builtin; refine Own.wpList_append2_any _ rfl _ _ 25 rfl B 5 i0 (.int .u8 0) 1 1 Try.underlying25 hi hz0 hz1 hz2 rfl (by decide) (.slice rd k rcap) k _ rfl (own.out _) ad len cap (bvs l) rfl (by rw [bvs_len, Nat.mul_one, c5.out]) c3.out (c4.out _) (bvs_oneCell _) (by unfold maxLen; omega) (by omega) hle ?_; intro v' w1 hown hgrow hnew; obtain ⟨⟨k1, k2⟩, HQ⟩ := HP.out _ _ _ hown hgrow hnew; have HQ := Lib.hid HQ; obtain ⟨dd, dcap, rfl, _⟩ := Own.shape hown; clear hown hgrow hnew)
  go_returns
  exact HQ.out
theorem byte_any (g B m : Nat) (s : Int × List UInt8) (row : Option Nat) (ad : Option Addr) (len cap : Nat) (l : List UInt8) (w : World) (h : WR w B g m s row)
    (hlen : l.length = len) (hm : s.2.length + len ≤ 1000000) (hr : RdB w ad l) (hn : ad = none → cap = 0) :
    Calls Try.prog 46 #[.pointer (some ⟨g, 0, none⟩), .slice ad len cap] w (WPost w B g m row (wByte m s l)) := by
  obtain ⟨e, l0⟩ := s
  by_cases he : e = 0
  · subst he
    by_cases hl : m - l0.length < len
    · rw [wByte_long l rfl (by rw [hlen]; exact hl)]
      exact byte_long g B m l0 row ad len cap w h hl (by omega)
    · rw [wByte_fits l rfl (by rw [hlen]; exact hl)]
      exact byte_fits g B m l0 row ad len cap l w h hl hlen hm hr hn
  · rw [wByte_bad l he]
    exact byte_no g B m e l0 row ad len cap l w h he
theorem byte_nil (v : Value) (w : World) : Calls Try.prog 46 #[.pointer none, v] w fun e w' => e = .returned (.tuple #[]) ∧ w = w' := by
  go_enter Try.func46, Try.ntmps46
  go_wp2_with fail
  go_returns
  exact ⟨rfl, rfl⟩
end Go.Proofs.Ytepcbklokcfbfaa.Buf
