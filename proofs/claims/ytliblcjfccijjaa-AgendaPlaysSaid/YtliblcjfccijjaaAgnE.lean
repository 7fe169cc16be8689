/- Contracts of package agenda (layer 8) at int: shed, Len, Room, Next, New, Take. -/
import Derived.Test.YtliblcjfccijjaaAgnD
namespace Go.Proofs.Ytliblcjfccijjaa.AgdN
open Go.ChangeShapes Go.WideShapes Go.ChangeAt Go.RowKit
open Go.Proofs.Ytliblcjfccijjaa.Rw Go.Proofs.Ytliblcjfccijjaa.Agd
set_option linter.unusedVariables false
set_option linter.unusedSimpArgs false
abbrev AgL (w : World) (g : Nat) (most : Int) (add : Nat) (l : List Th) (F : Nat → Prop) : Prop := Ag 124 126 w g most add l F
theorem shed_any (g b : Nat) (most : Int) (add cap : Nat) (l : List Th) (w : World) (h : RowL w g b most add cap l) (hN : l.length ≤ 1000000) (hl : 0 < l.length) (hh : Heap l) :
    Calls Try.prog 86 #[.pointer (some ⟨g, 0, none⟩)] w fun e w' => e = .returned (.tuple #[]) ∧ ∃ l', RowL w' g b most add cap l' ∧ Heap l' ∧ l'.Perm ((swp l 0 (l.length - 1)).take (l.length - 1)) ∧ Stay (fun k => k = b ∨ k = g) w w' := by
  obtain ⟨m, hm⟩ : ∃ m, l.length = m + 1 := ⟨l.length - 1, by omega⟩
  have CS := Lib.hid (swap_any g b most add cap l w h 0 m (by omega) (by omega))
  have hcap := h.len
  unfold maxLen at hcap
  have c2 := h.cells.2.2
  have hsl : (swp l 0 m).length = m + 1 := by rw [swp_len, hm]
  have CK : Hid (∀ W, RowL W g b most add cap ((swp l 0 m).take m) → Calls Try.prog 87 #[.pointer (some ⟨g, 0, none⟩), .int .i64 0] W fun e w' => e = .returned (.tuple #[]) ∧ HeapPost g b most add cap ((swp l 0 m).take m) W w') := Lib.hid (fun W hW => by
    have hs := hh.shed hl
    rw [hm, Nat.add_sub_cancel] at hs
    exact sink_any g b most add cap _ W hW (by rw [List.length_take, hsl]; omega) 0 (by omega) hs)
  have HCut : Hid (∀ W, RowL W g b most add cap (swp l 0 m) → RowL ((putT W b m ⟨0, 0, 0⟩).setCell ⟨g, 2, none⟩ (.slice (some ⟨b, 0, none⟩) m cap)) g b most add cap ((swp l 0 m).take m) ∧ Stay (fun k => k = b ∨ k = g) W ((putT W b m ⟨0, 0, 0⟩).setCell ⟨g, 2, none⟩ (.slice (some ⟨b, 0, none⟩) m cap))) := Lib.hid (fun W hW => hW.cut hsl _)
  have HC : Hid (∀ W, RowL W g b most add cap (swp l 0 m) → W.cell? ⟨g, 2, none⟩ = some (.slice (some ⟨b, 0, none⟩) (m + 1) cap) ∧ (∀ k, W.frozen? ⟨b, k, none⟩ = false) ∧ (∀ k, W.frozen? ⟨g, k, none⟩ = false) ∧ (W.cell? ⟨b, m * 3, none⟩ = some (.int .i64 (gt (swp l 0 m) m).due) ∧ W.cell? ⟨b, m * 3 + 1, none⟩ = some (.int .u64 (gt (swp l 0 m) m).no) ∧ W.cell? ⟨b, m * 3 + 2, none⟩ = some (.int .i64 (gt (swp l 0 m) m).x))) := Lib.hid (fun W hW => by
    refine ⟨by rw [← hsl]; exact hW.cells.2.2, hW.free, hW.freeg, hW.at_ (by omega)⟩)
  have hne := h.ne
  rw [hm, Nat.add_sub_cancel]
  rw [hm] at c2 hcap
  clear h hsl hh hl hm
  generalize (swp l 0 m).take m = l3 at *
  generalize gt (swp l 0 m) m = x at *
  generalize swp l 0 m = l2 at *
  go_enter Try.func86, Try.ntmps86
  go_wp2_with fail
  refine (CS.out).mono ?_; rintro e w1 ⟨rfl, hr1, hs1⟩
  obtain ⟨d2, f1, f2, y0, y1, y2⟩ := HC.out w1 hr1
  have HR1 := Lib.hid (HCut.out w1 hr1)
  have HS1 := Lib.hid hs1
  clear hr1 hs1 c2 HC HCut
  unfold putT at HR1
  go_wp2_with fail
  refine (CK.out _ HR1.out.1).mono ?_; rintro e w2 ⟨rfl, l4, hr2, hh2, hp2, hs2⟩
  have HE := Lib.hid (show ∃ l', RowL w2 g b most add cap l' ∧ Heap l' ∧ l'.Perm l3 ∧ Stay (fun k => k = b ∨ k = g) w w2 from ⟨l4, hr2, hh2, hp2, ((HS1.out.mono (fun k e => .inl e)).snoc HR1.out.2 (fun k _ e => e)).snoc hs2 (fun k _ e => .inl e)⟩)
  clear hr2 hh2 hp2 hs2
  go_wp2_with fail
  go_returns
  exact ⟨rfl, HE.out⟩
/-- What a step leaves that adds nothing. -/
def AgStay (g : Nat) (most : Int) (add : Nat) (l : List Th) (F : Nat → Prop) (w w' : World) : Prop := AgL w' g most add l F ∧ Stay F w w'
theorem AgStay.same {g : Nat} {most : Int} {add : Nat} {l : List Th} {F : Nat → Prop} {w w' : World} (h : AgL w g most add l F) (hB : Below w.heap.size w w') : AgStay g most add l F w w' := ⟨h.below hB, Stay.of_below hB⟩
theorem len_any (g : Nat) (most : Int) (add : Nat) (l : List Th) (F : Nat → Prop) (w : World) (h : AgL w g most add l F) :
    Calls Try.prog 78 #[.pointer (some ⟨g, 0, none⟩)] w fun e w' => e = .returned (.int .i64 (l.length : Nat)) ∧ w = w' := by
  obtain ⟨ad, cap, c0, c2⟩ := h.cells
  clear h
  go_enter Try.func78, Try.ntmps78
  go_wp2_with fail
  go_ret
  exact ⟨rfl, rfl⟩
theorem room_any (g : Nat) (most : Int) (add : Nat) (l : List Th) (F : Nat → Prop) (w : World) (h : AgL w g most add l F) (hm : 0 ≤ most ∧ most ≤ 65536) (hN : l.length ≤ 1000000) :
    Calls Try.prog 75 #[.pointer (some ⟨g, 0, none⟩)] w fun e w' => e = .returned (.int .i64 (most - (l.length : Nat))) ∧ Below w.heap.size w w' := by
  obtain ⟨ad, cap, c0, c2⟩ := h.cells
  have hw1 : IntKind.i64.wrap (most - (l.length : Int)) = most - (l.length : Int) := by rw [IntKind.wrap_i64]; omega
  have HD : Hid (Below w.heap.size w w.drew) := Lib.hid (Below.refl _ _).drew
  clear h
  generalize l.length = n at *
  go_enter Try.func75, Try.ntmps75
  go_wp2_with fail
  go_region
  go_wp2_with fail
  go_ret
  exact ⟨rfl, HD.out⟩
theorem next_ag (g : Nat) (most : Int) (add : Nat) (l : List Th) (F : Nat → Prop) (w : World) (h : AgL w g most add l F) (hN : l.length ≤ 1000000) :
    Calls Try.prog 63 #[.pointer (some ⟨g, 0, none⟩)] w fun e w' => e = .returned (.tuple #[.int .i64 (nd l), .bool (some1 l)]) ∧ w = w' := by
  have CL := Lib.hid (len_any g most add l F w h)
  by_cases hl : l = []
  · subst hl
    rw [show nd [] = 0 from rfl, show some1 [] = false from rfl]
    clear h
    go_enter Try.func63, Try.ntmps63
    go_wp2_with fail
    refine (CL.out).mono ?_; rintro e w1 ⟨rfl, rfl⟩
    go_wp2_with fail
    go_ret2
    exact ⟨rfl, rfl⟩
  · obtain ⟨b, cap, H, hr, hb, hlen, hroot, -⟩ := h.row hl
    have h0 : 0 < l.length := List.length_pos_iff.2 hl
    obtain ⟨a0, a1, a2⟩ := hr.at_ (i := 0) (by omega)
    rw [hroot] at a0
    have c2 := hr.cells.2.2
    have hcap := hr.len
    unfold maxLen at hcap
    rw [hlen] at c2 hcap
    rw [show nd l = (Agd.hd l).due from if_neg hl, show some1 l = true by simp [some1, hl]]
    have hne : ¬ ((l.length : Int) = 0) := by omega
    simp only [Nat.zero_mul, Nat.zero_add] at a0
    generalize (Agd.hd l).due = d at *
    clear h a1 a2 hr hb hl
    generalize l.length = n at *
    go_enter Try.func63, Try.ntmps63
    go_wp2_with fail
    refine (CL.out).mono ?_; rintro e w1 ⟨rfl, rfl⟩
    go_wp2_with fail
    go_ret2
    exact ⟨rfl, rfl⟩
end Go.Proofs.Ytliblcjfccijjaa.AgdN
