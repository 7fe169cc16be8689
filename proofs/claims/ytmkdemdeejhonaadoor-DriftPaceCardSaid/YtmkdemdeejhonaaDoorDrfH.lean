/- Layer 28's laws, their plain ends: clocks that go on by what they may; a note out of the document's cells. -/
import Derived.Test.YtmkdemdeejhonaaDoorDrfK
namespace Go.Proofs.YtmkdemdeejhonaaDoor.Drf
open Go.RowKit Go.ChangeShapes Go.WideShapes Go.ChangeAt
open Go.Proofs.YtmkdemdeejhonaaDoor.Rw
open Nodes (Tabs mem mem_mem)
set_option linter.unusedVariables false
/-- A watch over clocks that go on by s at least, by f at most, and tell Z now. -/
structure PS (s f : Int) (a : Wt) (k : Nat) (Z : List Int) : Prop where
  eps : a.eps = 4611686018427387904
  slow : a.slow = s
  fast : a.fast = f
  apart : a.apart = 0
  pace : a.pace = 0
  set : a.n.set < 18446744073709551616
  len : Z.length = 3
  bd : ∀ i, i < 3 → 0 ≤ Z.getD i 0 ∧ Z.getD i 0 ≤ 4294967295 + 510 * (k : Int)
  last : (k = 0 ∧ a.n = nt0) ∨ (0 < k ∧ ∃ P : List Int, P.length = 3 ∧ a.n = ⟨(k : Int) - 1, P, 7⟩ ∧ ∀ i, i < 3 → (0 ≤ P.getD i 0 ∧ P.getD i 0 ≤ 1152921504606846976) ∧ s ≤ Z.getD i 0 - P.getD i 0 ∧ Z.getD i 0 - P.getD i 0 ≤ f)
theorem kp_id {x : Int} (h0 : 0 ≤ x) (h1 : x ≤ 1152921504606846976) : kp x = x := by
  unfold kp Span.clampV
  rw [if_neg (by omega), if_neg (by omega)]
theorem mem_seven {n : Nt} (hl : n.l.length = 3) (hs : n.set = 7) : ∀ i ∈ mem n.s, i < 3 := fun i hi => by
  have := s_len (n := n) (mem_mem.1 hi).2
  omega
theorem ps_late {s f : Int} {a : Wt} {k : Nat} {Z : List Int} (h : PS s f a k Z) (hk : k < 40) : lateN a.n ⟨(k : Int), Z, 7⟩ a.slow a.fast = 0 := by
  rcases h.last with ⟨rfl, e⟩ | ⟨hk0, P, hP, e, hb⟩
  · rw [e]
    unfold lateN
    split
    · rfl
    · have : nt0.s = 0 := by simp [nt0, Nt.s]
      rw [this, Nat.and_zero, Nodes.mem_zero]
      rfl
  · rw [e, h.slow, h.fast]
    unfold lateN
    split
    · rfl
    · rw [List.length_eq_zero_iff, List.filter_eq_nil_iff]
      intro i hi
      have hi2 := mem_mem.1 hi
      rw [Nat.testBit_and, Bool.and_eq_true] at hi2
      have h3 : i < 3 := mem_seven (n := ⟨(k : Int), Z, 7⟩) h.len rfl i (mem_mem.2 ⟨hi2.1, hi2.2.1⟩)
      obtain ⟨⟨p0, p1⟩, q0, q1⟩ := hb i h3
      obtain ⟨z0, z1⟩ := h.bd i h3
      have e1 : kp (k : Int) - kp ((k : Int) - 1) = 1 := by rw [kp_id (by omega) (by omega), kp_id (by omega) (by omega)]; omega
      have e2 : Nt.t ⟨(k : Int), Z, 7⟩ i = Z.getD i 0 := kp_id (x := Z.getD i 0) (by omega) (by omega)
      have e3 : Nt.t ⟨(k : Int) - 1, P, 7⟩ i = P.getD i 0 := kp_id (x := P.getD i 0) (by omega) (by omega)
      unfold outB badB
      rw [e2, e3]
      show ¬ ((decide (_ < (kp (k : Int) - kp ((k : Int) - 1)) * s) || decide ((kp (k : Int) - kp ((k : Int) - 1)) * f < _)) = true)
      rw [e1, Int.one_mul, Int.one_mul, decide_eq_false (by omega), decide_eq_false (by omega)]
      decide
theorem ps_note {s f : Int} {a : Wt} {k : Nat} {Z : List Int} (h : PS s f a k Z) (hk : k < 40) : noteB a ⟨(k : Int), Z, 7⟩ = true := by
  have hg := gap_bd (n := ⟨(k : Int), Z, 7⟩) (show (7 : Nat) < 18446744073709551616 by decide)
  unfold noteB
  rw [ps_late h hk, h.eps, decide_eq_true (by omega)]
  rfl
theorem ps_next {s f : Int} {a : Wt} {k : Nat} {Z Z' : List Int} (h : PS s f a k Z) (hk : k < 40) (s0 : 0 ≤ s) (f1 : f ≤ 510) (hl : Z'.length = 3) (hz : ∀ i, i < 3 → s ≤ Z'.getD i 0 - Z.getD i 0 ∧ Z'.getD i 0 - Z.getD i 0 ≤ f) :
    PS s f (nextW a ⟨(k : Int), Z, 7⟩) (k + 1) Z' := by
  have hg := gap_bd (n := ⟨(k : Int), Z, 7⟩) (show (7 : Nat) < 18446744073709551616 by decide)
  obtain ⟨e1, e2, e3, e4⟩ := wide_keeps a (gapV ⟨(k : Int), Z, 7⟩) (kp (k : Int))
  have ew : (wide a (gapV ⟨(k : Int), Z, 7⟩) (kp (k : Int))).eps = a.eps ∧ (wide a (gapV ⟨(k : Int), Z, 7⟩) (kp (k : Int))).apart = a.apart := by
    unfold wide
    dsimp only
    rw [if_neg (by rw [h.eps]; omega)]
    split <;> exact ⟨rfl, rfl⟩
  refine ⟨ew.1.trans h.eps, e2.trans h.slow, e3.trans h.fast, ew.2.trans h.apart, ?_, (by show (7 : Nat) < _; decide), hl, fun i hi => ?_, .inr ⟨by omega, Z, h.len, ?_, fun i hi => ?_⟩⟩
  · show a.pace + lateN a.n ⟨(k : Int), Z, 7⟩ a.slow a.fast = 0
    rw [ps_late h hk, h.pace]
  · have := h.bd i hi
    have := hz i hi
    omega
  · show (⟨(k : Int), Z, 7⟩ : Nt) = _
    rw [Int.natCast_add, Int.natCast_one, Int.add_sub_cancel]
  · have := h.bd i hi
    exact ⟨⟨by omega, by omega⟩, hz i hi⟩
theorem ps_start {s f : Int} {Z : List Int} (hl : Z.length = 3) (hz : ∀ i, i < 3 → 0 ≤ Z.getD i 0 ∧ Z.getD i 0 ≤ 4294967295) : PS s f (wt0 4611686018427387904 s f) 0 Z :=
  ⟨rfl, rfl, rfl, rfl, rfl, (show (0 : Nat) < 18446744073709551616 by decide), hl, fun i hi => by have := hz i hi; omega, .inl ⟨rfl, rfl⟩⟩
theorem ps_fine {s f : Int} {a : Wt} {k : Nat} {Z : List Int} (h : PS s f a k Z) : fineB a = true := by
  unfold fineB
  rw [h.apart, h.pace]
  rfl
/-- A watch and a row of numbers, both of the call's own. -/
structure OX (w : World) (g : Nat) (a : Wt) (X : Nat) (Z : List Int) (W : World) : Prop where
  on : On w g a W
  row : Blk W X 2 (Z.map (Value.int .i64)).toArray
  own : w.heap.size ≤ X
theorem OX.later {w W W' : World} {g X : Nat} {a : Wt} {Z : List Int} (h : OX w g a X Z W) (hB : Below W.heap.size W W') : OX w g a X Z W' := ⟨h.on.later hB, h.row.below hB, h.own⟩
theorem OX.ne {w W : World} {g X : Nat} {a : Wt} {Z : List Int} (h : OX w g a X Z W) : g ≠ X := Blk.ne h.on.wc h.row (by decide)
theorem OX.cell {w W : World} {g X : Nat} {a : Wt} {Z : List Int} (h : OX w g a X Z W) {i : Nat} (hi : i < Z.length) : W.cell? ⟨X, i, none⟩ = some (.int .i64 (Z.getD i 0)) := by
  rw [h.row.cell i]
  simp [hi]
theorem OX.sl {w W : World} {g X : Nat} {a : Wt} {Z : List Int} (h : OX w g a X Z W) (hm : Z.length ≤ 9223372036854775807) : I64s.Sl W (some ⟨X, 0, none⟩) Z.length Z :=
  ⟨.inr ⟨X, 0, rfl, fun i hi => by rw [Nat.zero_add]; exact h.cell hi⟩, Nat.le_refl _, hm, fun e => by cases e⟩
theorem OX.put {w W : World} {g X : Nat} {a : Wt} {Z : List Int} (h : OX w g a X Z W) (i : Nat) (v : Int) (ht : 0 < w.heap.size) : OX w g a X (Z.set i v) (W.setCell ⟨X, i, none⟩ (.int .i64 v)) := by
  have hx := h.own
  have hr := h.row.put i (.int .i64 v)
  rw [List.setIfInBounds_toArray, ← List.map_set] at hr
  refine ⟨⟨h.on.wc.far h.ne _, ?_, h.on.below.setCell h.own _, h.on.own⟩, hr, h.own⟩
  have hb : (W.setCell ⟨X, i, none⟩ (.int .i64 v)).heap[0]? = W.heap[0]? := Below.heap_setCell W ⟨X, i, none⟩ _ _ (show 0 ≠ X by omega)
  refine ⟨fun j hj => ?_, Nat.lt_of_lt_of_le h.on.tabs.2 (setCell_grown W X i _).size⟩
  have := h.on.tabs.1 j hj
  unfold World.cell? at this ⊢
  dsimp only at this ⊢
  rw [hb]
  exact this
theorem ox_note (g : Nat) (a : Wt) (X : Nat) (Z : List Int) (tick : Int) (ad : Option Addr) (cap : Nat) (l : List Int) (S : Nat) (hS : S < 18446744073709551616) (hS' : a.n.set < 18446744073709551616) (hap : a.apart < 1000000) (hpc : a.pace < 1000000)
    (w W : World) (h : OX w g a X Z W) (hl : I64s.Sl W ad cap l) :
    Calls Tryd.prog 9 #[.pointer (some ⟨g, 0, none⟩), .int .i64 tick, .slice ad l.length cap, .int .u64 (S : Int)] W fun e w' => e = .returned (.bool (noteB a ⟨tick, l, S⟩)) ∧ OX w g (nextW a ⟨tick, l, S⟩) X Z w' :=
  (note_any g a tick ad cap l S hS hS' hap hpc W h.on.wc hl h.on.tabs).mono (fun e w' hw => ⟨hw.1, h.on.set hw.2, h.row.stay hw.2.2 (fun e => h.ne e.symm), h.own⟩)
end Go.Proofs.YtmkdemdeejhonaaDoor.Drf
