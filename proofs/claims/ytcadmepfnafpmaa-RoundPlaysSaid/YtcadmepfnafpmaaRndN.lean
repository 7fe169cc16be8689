/- Contracts of package round (layer 25): Note. -/
import Derived.Test.YtcadmepfnafpmaaRndA
namespace Go.Proofs.Ytcadmepfnafpmaa.Rnd
open Go.ChangeShapes Go.WideShapes Go.ChangeAt Go.RowKit Go.Maps
set_option linter.unusedVariables false
set_option linter.unusedSimpArgs false
theorem eqlNil (w : World) : (binOp .eql 53 (.map none) (.map none)).run Try.prog w = .ok (.bool true) w := by kernel_rfl
theorem eqlSome (b : Nat) (w : World) : (binOp .eql 53 (.map (some b)) (.map none)).run Try.prog w = .ok (.bool false) w := by kernel_rfl
/-- Which blocks a call may touch. -/
def Fg (g : Nat) (mb : Option Nat) (k : Nat) : Prop := k = g ∨ mb = some k
/-- What Note leaves. -/
def NotePost (W : World) (B g : Nat) (no : Int) (mb : Option Nat) (L' : List Rg) (er : Int) (e : Ending) (w' : World) : Prop :=
  ∃ mb', e = .returned (.int .i64 er) ∧ RR w' B g no mb' L' ∧ (mb' = mb ∨ ∃ b, mb' = some b ∧ W.heap.size ≤ b) ∧ Rw.Stay (Fg g mb) W w'
section
variable {B g : Nat} {no : Int} {mb : Option Nat} {L : List Rg} {x d : Int} {w w' : World}
theorem note_same (h : RR w B g no mb L) (er : Int) : NotePost w B g no mb L er (.returned (.int .i64 er)) w := ⟨mb, rfl, h, .inl rfl, Rw.Stay.refl _ _⟩
theorem noteL_ok (h0 : 0 ≤ x) (h1 : x ≤ 63) (hh : hasR L x = false) : noteL L x d = L ++ [(x, d)] := by
  unfold noteL
  rw [if_neg (by omega), hh]
  rfl
theorem noteE_ok (h0 : 0 ≤ x) (h1 : x ≤ 63) (hh : hasR L x = false) : noteE L x = 0 := by
  unfold noteE
  rw [if_neg (by omega), hh]
  rfl
theorem om_start (w : World) (g : Nat) : OM ((w.setCell ⟨g, 1, none⟩ (.map (some w.heap.size))).alloc (.map #[] 0)) w.heap.size 0 (.map []) := by
  have h := World.ownsMap_made (H := Unit) (w.setCell ⟨g, 1, none⟩ (.map (some w.heap.size))) Try.prog 3 (plainElem Try.prog 2)
  rw [World.size_setCell] at h
  exact h
/-- The first reading: a new map. -/
theorem note_first (h : RR w B g no none []) (hBw : B ≤ w.heap.size) (h0 : 0 ≤ x) (h1 : x ≤ 63) (hd : in64 d)
    (ho : OM w' w.heap.size 1 ((DataW.map []).put (.int .i64 x) (.lit (.int .i64 d)))) (hg : ((w.setCell ⟨g, 1, none⟩ (.map (some w.heap.size))).alloc (.map #[] 0)).grownBy w' (some w.heap.size)) :
    NotePost w B g no none ([] ++ [(x, d)]) 0 (.returned (.int .i64 0)) w' := by
  have hgl := h.lt
  have hm := Md.start.put (x := x) (d := d) rfl
  have hok := h.ok.note (x := x) hd
  rw [noteL_ok h0 h1 rfl] at hok
  have b1 : Rw.Blk ((w.setCell ⟨g, 1, none⟩ (.map (some w.heap.size))).alloc (.map #[] 0)) g 55 #[.int .i64 no, .map (some w.heap.size)] := (h.blk.put 1 _).alloc _
  refine ⟨some w.heap.size, rfl, ⟨b1.grown hg (by simp; omega), .inr ⟨_, _, rfl, hBw, ho, hm⟩, h.ge, hok⟩, .inr ⟨_, rfl, Nat.le_refl _⟩, ?_⟩
  refine ⟨hg.os, hg.tape, hg.output, ?_, fun k hk hn => ?_⟩
  · have := hg.size
    rw [World.size_alloc, World.size_setCell] at this
    omega
  · have hkg : k ≠ g := fun e => hn (.inl e)
    rw [hg.block k (by rw [World.size_alloc, World.size_setCell]; omega) (by simp; omega), Below.heap_alloc _ _ k (by rw [World.size_setCell]; exact hk), Below.heap_setCell _ _ _ _ (by exact hkg)]
/-- One more reading in a map that is there. -/
theorem note_more {b n : Nat} {D : DataW Unit} (h : RR w B g no (some b) L) (hm : Md D L) (hn : L.length = n) (hBb : B ≤ b) (h0 : 0 ≤ x) (h1 : x ≤ 63) (hh : hasR L x = false) (hd : in64 d)
    (ho : OM w' b (n + 1) (D.put (.int .i64 x) (.lit (.int .i64 d)))) (hg : w.grownBy w' (some b)) :
    NotePost w B g no (some b) (L ++ [(x, d)]) 0 (.returned (.int .i64 0)) w' := by
  have hgb := h.ne rfl
  have hok := h.ok.note (x := x) hd
  rw [noteL_ok h0 h1 hh] at hok
  refine ⟨some b, rfl, ⟨h.blk.grown hg (fun e => hgb (Option.some.inj e)), .inr ⟨b, _, rfl, hBb, ?_, hm.put hh⟩, h.ge, hok⟩, .inl rfl, Rw.Stay.of_grown hg (fun k e => .inr e)⟩
  rw [List.length_append, hn]
  exact ho
end
set_option maxRecDepth 100000 in
theorem rnote_any {B g : Nat} {no : Int} {mb : Option Nat} {L : List Rg} {x d : Int} (hx : in64 x) (hd : in64 d) (w : World) (h : RR w B g no mb L) (hBw : B ≤ w.heap.size) :
    Calls Try.prog 9 #[.pointer (some ⟨g, 0, none⟩), .int .i64 x, .int .i64 d] w (NotePost w B g no mb (noteL L x d) (noteE L x)) := by
  have c1 := h.c1
  have hl := h.map.look hx
  have e1 := eqlNil
  have e2 := eqlSome
  by_cases h0 : x < 0
  · have HP := Lib.hid (note_same h 8)
    rw [show noteL L x d = L by unfold noteL; rw [if_pos (.inl h0)], show noteE L x = 8 by unfold noteE; rw [if_pos (.inl h0)]]
    have d0 : decide (x < 0) = true := decide_eq_true h0
    clear h hx h0
    generalize NotePost w B g no mb L 8 = Q at *
    go_enter Try.func9, Try.ntmps9
    go_wp2_with fail
    first | exact HP.out | (go_ret; exact HP.out)
  · by_cases h1 : 63 < x
    · have HP := Lib.hid (note_same h 8)
      rw [show noteL L x d = L by unfold noteL; rw [if_pos (.inr h1)], show noteE L x = 8 by unfold noteE; rw [if_pos (.inr h1)]]
      have d0 : decide (x < 0) = false := decide_eq_false h0
      have d1 : decide (64 ≤ x) = true := decide_eq_true (by omega)
      clear h hx h0 h1
      generalize NotePost w B g no mb L 8 = Q at *
      go_enter Try.func9, Try.ntmps9
      go_wp2_with fail
      first | exact HP.out | (go_ret; exact HP.out)
    · have d0 : decide (x < 0) = false := decide_eq_false h0
      have d1 : decide (64 ≤ x) = false := decide_eq_false (by omega)
      cases hh : hasR L x with
      | true =>
        have HP := Lib.hid (note_same h 12)
        rw [show noteL L x d = L by unfold noteL; rw [if_neg (by omega), if_pos hh], show noteE L x = 12 by unfold noteE; rw [if_neg (by omega), if_pos hh]]
        rw [hh] at hl
        clear h hx h0 h1 hh
        generalize NotePost w B g no mb L 12 = Q at *
        generalize getR L x = v at *
        go_enter Try.func9, Try.ntmps9
        go_wp2_with fail
        first | exact HP.out | (go_ret; exact HP.out)
      | false =>
        rw [noteL_ok (by omega) (by omega) hh, noteE_ok (by omega) (by omega) hh]
        rw [hh] at hl
        cases mb with
        | none =>
          obtain rfl : L = [] := by
            rcases h.map with ⟨_, e⟩ | ⟨b, D, e, _⟩
            · exact e
            · cases e
          have hO := om_start w g
          have f1 := h.blk.free 1
          have hgl := h.lt
          have hmm := @run_makeMap Try.prog
          have HP : Hid (∀ w', OM w' w.heap.size 1 ((DataW.map []).put (.int .i64 x) (.lit (.int .i64 d))) → ((w.setCell ⟨g, 1, none⟩ (.map (some w.heap.size))).alloc (.map #[] 0)).grownBy w' (some w.heap.size) → NotePost w B g no none ([] ++ [(x, d)]) 0 (.returned (.int .i64 0)) w') := Lib.hid (fun w' ho hg => note_first h hBw (by omega) (by omega) hd ho hg)
          have HX := Lib.hid hx
          have HD := Lib.hid hd
          clear h hx hd h0 h1 hh
          generalize NotePost w B g no none ([] ++ [(x, d)]) 0 = Q at *
          generalize getR [] x = v at *
          unfold OM at *
          go_enter Try.func9, Try.ntmps9
          go_wp2_with (first
            | (at_mapUpdate; refine wpList_mapUpdate_own _ rfl _ _ _ 53 rfl 3 2 lawI Try.underlying53 _ w.heap.size 0 (.map []) rfl hO (by unfold maxLen; omega) _ _ (.int .i64 x) rfl rfl (keyI HX.out) (.lit (.int .i64 d)) [] (elem64 HD.out) ?_; intro w2 hown2 hg2; have HQ := Lib.hid (HP.out w2 hown2 hg2); clear hown2 hg2)
            | go_in)
          first | exact HQ.out | (go_ret; exact HQ.out)
        | some b =>
          obtain ⟨b', D, e, hBb, hown, hm⟩ : ∃ b' D, some b = some b' ∧ B ≤ b' ∧ OM w b' L.length D ∧ Md D L := by
            rcases h.map with ⟨e, _⟩ | h
            · cases e
            · exact h
          cases e
          have hn64 := h.ok.len
          obtain ⟨n, hn⟩ : ∃ n, L.length = n := ⟨_, rfl⟩
          have HP : Hid (∀ w', OM w' b (n + 1) (D.put (.int .i64 x) (.lit (.int .i64 d))) → w.grownBy w' (some b) → NotePost w B g no (some b) (L ++ [(x, d)]) 0 (.returned (.int .i64 0)) w') := Lib.hid (fun w' ho hg => note_more h hm hn hBb (by omega) (by omega) hh hd ho hg)
          rw [hn] at hown hn64
          have HX := Lib.hid hx
          have HD := Lib.hid hd
          clear h hx hd h0 h1 hh hm hn
          generalize NotePost w B g no (some b) (L ++ [(x, d)]) 0 = Q at *
          generalize getR L x = v at *
          unfold OM at *
          go_enter Try.func9, Try.ntmps9
          go_wp2_with (first
            | (at_mapUpdate; refine wpList_mapUpdate_own _ rfl _ _ _ 53 rfl 3 2 lawI Try.underlying53 _ b n D rfl hown (by unfold maxLen; omega) _ _ (.int .i64 x) rfl rfl (keyI HX.out) (.lit (.int .i64 d)) [] (elem64 HD.out) ?_; intro w2 hown2 hg2; have HQ := Lib.hid (HP.out w2 hown2 hg2); clear hown2 hg2)
            | go_in)
          first | exact HQ.out | (go_ret; exact HQ.out)
end Go.Proofs.Ytcadmepfnafpmaa.Rnd
