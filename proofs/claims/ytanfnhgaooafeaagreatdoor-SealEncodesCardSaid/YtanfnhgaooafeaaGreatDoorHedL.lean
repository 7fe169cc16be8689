/- A head is read (layer 9): what is read, plainly; a reader beside a box; found; get. -/
import Derived.Test.YtanfnhgaooafeaaGreatDoorHedX
import Derived.Test.YtanfnhgaooafeaaGreatDoorBufX
namespace Go.Proofs.YtanfnhgaooafeaaGreatDoor.Hed
open Go.ChangeShapes Go.WideShapes Go.ChangeAt Go.RowKit Go.Deep
open Go.Proofs.YtanfnhgaooafeaaGreatDoor.Byt Go.Proofs.YtanfnhgaooafeaaGreatDoor.Key Go.Proofs.YtanfnhgaooafeaaGreatDoor.Buf Go.Proofs.YtanfnhgaooafeaaGreatDoor.BufM
set_option linter.unusedVariables false
set_option linter.unusedSimpArgs false
abbrev St := Int × List UInt8
/-- A packet with a head alone. -/
def hpk (k h t f q : Nat) : Pk := ⟨k, ((t : Nat), (f : Nat), (q : Nat)), h, 0, 0, 0, 0, 0, 0, none, 0, []⟩
/-- Is it a kind? -/
def isKb (k : Int) : Bool := decide (1 ≤ k ∧ k ≤ 6)
/-- What is wrong with what was read: in reading it, or with it. -/
def fnd (s : St) (b : Bool) (wr : Int) : Int := if s.1 = 0 then (if b then 0 else wr) else s.1
def gt4 (k h t f : Nat) (s : St) : Pk × Int × St := if fnd s (goodK ((t : Nat), (f : Nat), 0)) 8 = 0 then (hpk k h t f (getF s.2 4).1, (fixS s 4).1, fixS s 4) else (hpk k h t f 0, fnd s (goodK ((t : Nat), (f : Nat), 0)) 8, s)
def gt3 (k h t : Nat) (s : St) : Pk × Int × St := if fnd s (decide ((t : Int) ≤ 1152921504606846976)) 2 = 0 then gt4 k h t (getF s.2 1).1 (fixS s 1) else (hpk k h 0 0 0, fnd s (decide ((t : Int) ≤ 1152921504606846976)) 2, s)
def gt2 (k h : Nat) (s : St) : Pk × Int × St := if fnd s (okHops h) 9 = 0 then gt3 k h (getN s.2).1 (numS s) else (hpk k h 0 0 0, fnd s (okHops h) 9, s)
def gt1 (k : Nat) (s : St) : Pk × Int × St := if fnd s (isKb k) 7 = 0 ∧ flo k = true then gt2 k (getF s.2 1).1 (fixS s 1) else (hpk k 0 0 0 0, fnd s (isKb k) 7, s)
/-- What get reads: the packet, the error, what is left. -/
def gt (s : St) : Pk × Int × St := gt1 (getF s.2 1).1 (fixS s 1)
theorem getF_four (l : List UInt8) : (getF l 4).1 < 4294967296 := by
  unfold getF
  split
  · simp
  split
  · simp
  · have h : ∀ (l : List UInt8), fixN l < 256 ^ l.length := by
      intro l
      induction l with
      | nil => simp [fixN]
      | cons b l ih =>
        rw [fixN, List.length_cons, Nat.pow_succ]
        have := b.toNat_lt
        omega
    have h2 := h (l.take (4 : Int).toNat)
    have h3 : (l.take (4 : Int).toNat).length ≤ 4 := by rw [List.length_take]; exact Nat.min_le_left _ _
    have h4 : (256 : Nat) ^ (l.take (4 : Int).toNat).length ≤ 256 ^ 4 := Nat.pow_le_pow_right (by omega) h3
    simp only
    omega
/-- A reader beside a box that is the call's own. -/
structure GS (w : World) (g bp : Nat) (cs : Array Value) (s : St) (W : World) : Prop where
  rr : RR W g s
  box : Blk W bp 27 cs
  lt : g < bp
  le : w.heap.size ≤ bp
  step : RStep w W g
theorem GS.start {w : World} {g : Nat} {s : St} (h : RR w g s) (cs : Array Value) : GS w g w.heap.size cs s (w.alloc (.cells cs 27)) := by
  have hB : Below w.heap.size w (w.alloc (.cells cs 27)) := (Below.refl _ _).alloc (Nat.le_refl _) _
  exact ⟨h.kept hB, Blk.new _ _ _, h.lt, Nat.le_refl _, RStep.of_below hB (Nat.le_of_lt h.lt)⟩
theorem GS.kept {w W V : World} {g bp : Nat} {cs : Array Value} {s : St} (h : GS w g bp cs s W) (hB : Below W.heap.size W V) : GS w g bp cs s V :=
  ⟨h.rr.kept hB, h.box.below hB, h.lt, h.le, h.step.trans (RStep.of_below hB (Nat.le_of_lt h.rr.lt))⟩
theorem GS.next {w W : World} {g bp : Nat} {cs : Array Value} {s s' : St} (h : GS w g bp cs s W) {v : Value} {e : Ending} {w' : World} (hp : RPost W g s' v e w') : e = .returned v ∧ Hid (GS w g bp cs s' w') := by
  obtain ⟨rfl, h1, h2⟩ := hp
  exact ⟨rfl, Lib.hid ⟨h1, (h2.block bp h.lt h.box.lt).trans h.box, h.lt, h.le, h.step.trans h2⟩⟩
theorem GS.put {w W : World} {g bp : Nat} {cs : Array Value} {s : St} (h : GS w g bp cs s W) (i : Nat) (u : Value) : GS w g bp (cs.setIfInBounds i u) s (W.setCell ⟨bp, i, none⟩ u) := by
  have hlt := h.lt; have hle := h.le; have hw := h.step.below.size
  refine ⟨h.rr.behind fun b hb => heap_setCell_other _ _ _ _ (by simp only; omega), h.box.put i u, h.lt, h.le, ⟨h.step.below.setCell (p := ⟨bp, i, none⟩) (Nat.le_of_lt hlt) _, fun k h1 h2 => ?_⟩⟩
  exact (heap_setCell_other _ _ _ _ (by simp only; omega)).trans (h.step.block k h1 h2)
theorem GS.row {w W : World} {g bp : Nat} {cs : Array Value} {s : St} (h : GS w g bp cs s W) (ds : Array Value) (hs : cs.size = ds.size) : GS w g bp ds s (W.setRow bp ds) := by
  have hlt := h.lt; have hle := h.le
  refine ⟨h.rr.behind fun b hb => setRow_other _ _ _ _ (by omega), Blk.row h.box ds hs, h.lt, h.le, ⟨below_setRow h.step.below (Nat.le_of_lt hlt) _, fun k h1 h2 => ?_⟩⟩
  exact (setRow_other _ _ _ _ (by omega)).trans (h.step.block k h1 h2)
theorem GS.post {w W : World} {g bp : Nat} {cs : Array Value} {s : St} (h : GS w g bp cs s W) (v : Value) : RPost w g s v (.returned v) W := ⟨rfl, h.rr, h.step⟩
theorem found_any (g : Nat) (s : St) (b : Bool) (wr : Int) (w : World) (h : RR w g s) :
    Calls Tryz.prog 99 #[.pointer (some ⟨g, 0, none⟩), .bool b, .int .i64 wr] w fun e w' => e = .returned (.int .i64 (fnd s b wr)) ∧ w = w' := by
  have CE := Lib.hid (Buf.err_any g s w h)
  unfold fnd
  generalize s.1 = e0 at *
  clear h
  by_cases he : e0 = 0
  · subst he
    rw [if_pos rfl]
    cases b with
    | true =>
      rw [if_pos rfl]
      go_enter Tryz.func99, Tryz.ntmps99
      go_wp2_with fail
      refine (CE.out).mono ?_; rintro e w' ⟨rfl, rfl⟩
      go_wp2_with fail
      go_ret
      exact ⟨rfl, rfl⟩
    | false =>
      rw [if_neg (by decide)]
      go_enter Tryz.func99, Tryz.ntmps99
      go_wp2_with fail
      refine (CE.out).mono ?_; rintro e w' ⟨rfl, rfl⟩
      go_wp2_with fail
      go_ret
      exact ⟨rfl, rfl⟩
  · rw [if_neg he]
    have hne : (e0 != 0) = true := by simpa using he
    clear he
    go_enter Tryz.func99, Tryz.ntmps99
    go_wp2_with fail
    refine (CE.out).mono ?_; rintro e w' ⟨rfl, rfl⟩
    go_wp2_with fail
    go_ret
    exact ⟨rfl, rfl⟩
theorem fnd_ok {s : St} {b : Bool} {wr : Int} (h : fnd s b wr = 0) (hw : wr ≠ 0) : s.1 = 0 ∧ b = true := by
  unfold fnd at h
  split at h
  · cases b with
    | true => exact ⟨‹_›, rfl⟩
    | false => exact absurd h hw
  · exact absurd h ‹_›
theorem gt4_parts (k h t f : Nat) (s : St) (R : Pk × Int × St) (hR : gt4 k h t f s = R) (e : Int) (he : fnd s (goodK ((t : Nat), (f : Nat), 0)) 8 = e) :
    (e = 0 → R = (hpk k h t f (getF s.2 4).1, (fixS s 4).1, fixS s 4)) ∧ (e ≠ 0 → R = (hpk k h t f 0, e, s)) := by
  subst hR he
  unfold gt4
  exact ⟨fun h => by rw [if_pos h], fun h => by rw [if_neg h]⟩
theorem gt3_parts (k h t : Nat) (s : St) (R : Pk × Int × St) (hR : gt3 k h t s = R) (e : Int) (he : fnd s (decide ((t : Int) ≤ 1152921504606846976)) 2 = e) :
    (e = 0 → gt4 k h t (getF s.2 1).1 (fixS s 1) = R ∧ (t : Int) ≤ 1152921504606846976) ∧ (e ≠ 0 → R = (hpk k h 0 0 0, e, s)) := by
  subst hR he
  unfold gt3
  exact ⟨fun h => ⟨by rw [if_pos h], of_decide_eq_true (fnd_ok h (by decide)).2⟩, fun h => by rw [if_neg h]⟩
theorem gt2_parts (k h : Nat) (s : St) (R : Pk × Int × St) (hR : gt2 k h s = R) (e : Int) (he : fnd s (okHops h) 9 = e) :
    (e = 0 → gt3 k h (getN s.2).1 (numS s) = R) ∧ (e ≠ 0 → R = (hpk k h 0 0 0, e, s)) := by
  subst hR he
  unfold gt2
  exact ⟨fun h => by rw [if_pos h], fun h => by rw [if_neg h]⟩
theorem gt1_parts (k : Nat) (s : St) (R : Pk × Int × St) (hR : gt1 k s = R) (e : Int) (he : fnd s (isKb k) 7 = e) :
    (e = 0 ∧ flo k = true → gt2 k (getF s.2 1).1 (fixS s 1) = R) ∧ (¬ (e = 0 ∧ flo k = true) → R = (hpk k 0 0 0 0, e, s)) := by
  subst hR he
  unfold gt1
  exact ⟨fun h => by rw [if_pos h], fun h => by rw [if_neg h]⟩
end Go.Proofs.YtanfnhgaooafeaaGreatDoor.Hed
