/- The example, and an agenda that is nil (layer 8). -/
import Derived.Test.YtliblcjfccijjaaAgnH
namespace Go.Proofs.Ytliblcjfccijjaa.AgdN
open Go.ChangeShapes Go.WideShapes Go.ChangeAt Go.RowKit
open Go.Proofs.Ytliblcjfccijjaa.Rw Go.Proofs.Ytliblcjfccijjaa.Agd
set_option linter.unusedVariables false
set_option linter.unusedSimpArgs false
/-- An agenda all of whose blocks lie from B on. -/
def St (B : Nat) (g : Nat) (most : Int) (add : Nat) (l : List Th) (w : World) : Prop := B ≤ w.heap.size ∧ ∃ F, AgL w g most add l F ∧ ∀ k, F k → B ≤ k ∧ k < w.heap.size
theorem St.post {B g : Nat} {most : Int} {add add' : Nat} {l l' : List Th} {w w' : World} {F : Nat → Prop} (hB : B ≤ w.heap.size) (hF : ∀ k, F k → B ≤ k ∧ k < w.heap.size) (h : AgPost g most add' l' F w w') : St B g most add' l' w' ∧ Below B w w' := by
  have hs := h.2.size
  refine ⟨⟨by omega, _, h.1, fun k hk => ?_⟩, h.2.below (fun k hk => (hF k hk).1) hB⟩
  rcases hk with hk | hk
  · have := hF k hk; omega
  · omega
theorem St.stay {B g : Nat} {most : Int} {add add' : Nat} {l l' : List Th} {w w' : World} {F : Nat → Prop} (hB : B ≤ w.heap.size) (hF : ∀ k, F k → B ≤ k ∧ k < w.heap.size) (h : AgStay g most add' l' F w w') : St B g most add' l' w' ∧ Below B w w' := by
  have hs := h.2.size
  exact ⟨⟨by omega, F, h.1, fun k hk => by have := hF k hk; omega⟩, h.2.below (fun k hk => (hF k hk).1) hB⟩
theorem St.new (m : Int) (w : World) : Calls Try.prog 60 #[.int .i64 m] w fun e w' => ∃ g, e = .returned (.pointer (some ⟨g, 0, none⟩)) ∧ St w.heap.size g (min (max m 0) 65536) 0 [] w' ∧ Below w.heap.size w w' :=
  (new_any m w).mono fun e w' ⟨g, h1, h2, h3⟩ => ⟨g, h1, ⟨h3.size, _, h2, fun k hk => hk⟩, h3⟩
theorem St.add {B g : Nat} {most : Int} {add : Nat} {l : List Th} {w : World} (h : St B g most add l w) (due x : Int) (hm : 0 ≤ most ∧ most ≤ 65536) (hN : l.length ≤ 100000) (hA : add ≤ 100000) (hfull : ¬ (most - (l.length : Int) = 0)) :
    Calls Try.prog 61 #[.pointer (some ⟨g, 0, none⟩), .int .i64 due, .int .i64 x] w fun e w' => e = .returned (.int .i64 0) ∧ St B g most (add + 1) (l ++ [⟨due, add, x⟩]) w' ∧ Below B w w' := by
  obtain ⟨hB, F, h1, h2⟩ := h
  exact (add_any due x g most add l F w h1 hm hN hA hfull).mono fun e w' ⟨e1, e2⟩ => ⟨e1, St.post (add := add) (l := l) hB h2 e2⟩
theorem St.full {B g : Nat} {most : Int} {add : Nat} {l : List Th} {w : World} (h : St B g most add l w) (due x : Int) (hm : 0 ≤ most ∧ most ≤ 65536) (hN : l.length ≤ 100000) (hfull : most - (l.length : Int) = 0) :
    Calls Try.prog 61 #[.pointer (some ⟨g, 0, none⟩), .int .i64 due, .int .i64 x] w fun e w' => e = .returned (.int .i64 13) ∧ St B g most add l w' ∧ Below B w w' := by
  obtain ⟨hB, F, h1, h2⟩ := h
  exact (add_full due x g most add l F w h1 hm hN hfull).mono fun e w' ⟨e1, e2⟩ => ⟨e1, St.stay (add := add) (l := l) hB h2 e2⟩
theorem St.drain {B g : Nat} {most : Int} {add : Nat} {l : List Th} {w : World} (h : St B g most add l w) (now : Int) (hN : l.length ≤ 100000) :
    Calls Try.prog 62 #[.pointer (some ⟨g, 0, none⟩), .int .i64 now] w fun e w' => ∃ ad cap, e = .returned (.slice ad (DR now l).1.length cap) ∧ OwnI w' w.heap.size (.slice ad (DR now l).1.length cap) ((DR now l).1.map Th.x) ∧ St B g most add (DR now l).2 w' ∧ Below B w w' := by
  obtain ⟨hB, F, h1, h2⟩ := h
  exact (drain_any now g most add l F w h1 hN (fun k hk => (h2 k hk).2)).mono fun e w' ⟨ad, cap, e1, e2, e3⟩ => ⟨ad, cap, e1, e2, St.stay (add := add) (l := l) hB h2 e3⟩
theorem St.next {B g : Nat} {most : Int} {add : Nat} {l : List Th} {w : World} (h : St B g most add l w) (hN : l.length ≤ 100000) :
    Calls Try.prog 63 #[.pointer (some ⟨g, 0, none⟩)] w fun e w' => e = .returned (.tuple #[.int .i64 (nd l), .bool (some1 l)]) ∧ w = w' := by
  obtain ⟨hB, F, h1, h2⟩ := h
  exact next_ag g most add l F w h1 (by omega)
theorem St.len {B g : Nat} {most : Int} {add : Nat} {l : List Th} {w : World} (h : St B g most add l w) :
    Calls Try.prog 78 #[.pointer (some ⟨g, 0, none⟩)] w fun e w' => e = .returned (.int .i64 (l.length : Nat)) ∧ w = w' := by
  obtain ⟨hB, F, h1, h2⟩ := h
  exact len_any g most add l F w h1
theorem own_cells {w : World} {base : Nat} {ad : Option Addr} {n cap : Nat} {xs : List Int} (h : OwnI w base (.slice ad n cap) xs) {i : Nat} (hi : i < xs.length) : ∃ b, ad = some ⟨b, 0, none⟩ ∧ w.cell? ⟨b, i, none⟩ = some (.int .i64 (xs.getD i 0)) ∧ base ≤ b := by
  have h' := h
  rcases h'.2 with ⟨hv, hz⟩ | ⟨g, cap', cur, hv, hb, hg, _⟩
  · omega
  · simp only [Value.slice.injEq] at hv
    obtain ⟨rfl, rfl, rfl⟩ := hv
    refine ⟨g, rfl, ?_, hb⟩
    rw [World.ownsRow.cellAt h i (by omega)]
    have := flat_at (enc := encI) encI_len xs i 0 hi (by omega)
    rw [Nat.mul_one, Nat.add_zero] at this
    rw [this]
    rfl
set_option maxRecDepth 100000 in
set_option maxHeartbeats 2000000 in
theorem works8_any (w : World) : Calls Try.prog 39 #[] w fun e w' => e = .returned (.bool true) ∧ Below w.heap.size w w' := by
  have C0 := Lib.hid (St.new 3 w)
  rw [show min (max (3 : Int) 0) 65536 = 3 by decide] at C0
  have A1 : Hid (∀ g W, St w.heap.size g 3 0 [] W → _) := Lib.hid (fun g W h => St.add h 5 1 (by omega) (by simp) (by omega) (by simp))
  have A2 : Hid (∀ g W, St w.heap.size g 3 1 [⟨5, 0, 1⟩] W → _) := Lib.hid (fun g W h => St.add h 3 2 (by omega) (by simp) (by omega) (by simp))
  have A3 : Hid (∀ g W, St w.heap.size g 3 2 [⟨5, 0, 1⟩, ⟨3, 1, 2⟩] W → _) := Lib.hid (fun g W h => St.add h 3 3 (by omega) (by simp) (by omega) (by simp))
  have A4 : Hid (∀ g W, St w.heap.size g 3 3 [⟨5, 0, 1⟩, ⟨3, 1, 2⟩, ⟨3, 2, 3⟩] W → _) := Lib.hid (fun g W h => St.full h 1 4 (by omega) (by simp) (by simp))
  have A5 : Hid (∀ g W, St w.heap.size g 3 3 [⟨5, 0, 1⟩, ⟨3, 1, 2⟩, ⟨3, 2, 3⟩] W → _) := Lib.hid (fun g W h => St.drain h 3 (by simp))
  have A6 : Hid (∀ g W, St w.heap.size g 3 3 [⟨5, 0, 1⟩] W → _) := Lib.hid (fun g W h => St.next h (by simp))
  rw [show DR 3 [⟨5, 0, 1⟩, ⟨3, 1, 2⟩, ⟨3, 2, 3⟩] = ([⟨3, 1, 2⟩, ⟨3, 2, 3⟩], [⟨5, 0, 1⟩]) by decide] at A5
  simp only [List.nil_append, List.cons_append, List.length_cons, List.length_nil, List.map_cons, List.map_nil, Nat.zero_add, Nat.reduceAdd] at A1 A2 A3 A4 A5
  rw [show nd [⟨5, 0, 1⟩] = 5 by decide, show some1 [⟨5, 0, 1⟩] = true by decide] at A6
  go_enter Try.func39, Try.ntmps39
  go_wp2_with fail
  refine (C0.out).mono ?_; rintro e w1 ⟨g, rfl, h1, hB1⟩
  have CA1 := Lib.hid (A1.out g w1 h1)
  have HB1 := Lib.hid hB1
  clear h1 hB1
  go_wp2_with fail
  refine (CA1.out).mono ?_; rintro e w2 ⟨rfl, h2, hB2⟩
  have CA2 := Lib.hid (A2.out g w2 h2)
  have HB2 := Lib.hid (HB1.out.trans hB2)
  clear h2 hB2
  go_wp2_with fail
  refine (CA2.out).mono ?_; rintro e w3 ⟨rfl, h3, hB3⟩
  have CA3 := Lib.hid (A3.out g w3 h3)
  have HB3 := Lib.hid (HB2.out.trans hB3)
  clear h3 hB3
  go_wp2_with fail
  refine (CA3.out).mono ?_; rintro e w4 ⟨rfl, h4, hB4⟩
  have CA4 := Lib.hid (A4.out g w4 h4)
  have HB4 := Lib.hid (HB3.out.trans hB4)
  clear h4 hB4
  go_wp2_with fail
  refine (CA4.out).mono ?_; rintro e w5 ⟨rfl, h5, hB5⟩
  have CA5 := Lib.hid (A5.out g w5 h5)
  have HB5 := Lib.hid (HB4.out.trans hB5)
  clear h5 hB5
  go_wp2_with fail
  refine (CA5.out).mono ?_; rintro e w6 ⟨ad, cap, rfl, ho, h6, hB6⟩
  have CA6 := Lib.hid (A6.out g w6 h6)
  have HB6 := Lib.hid (HB5.out.trans hB6)
  obtain ⟨b, rfl, y0, -⟩ := own_cells ho (i := 0) (by simp)
  obtain ⟨b', e2, y1, -⟩ := own_cells ho (i := 1) (by simp)
  obtain ⟨p1, p2, -⟩ := ho.pos
  simp only [Option.some.injEq, Addr.mk.injEq, and_true] at e2
  subst e2
  unfold maxLen at p2
  simp only [List.getD_cons_zero, List.getD_cons_succ, List.length_cons, List.length_nil] at y0 y1 p1
  clear h6 hB6 ho
  go_wp2_with fail
  refine (CA6.out).mono ?_; rintro e w7 ⟨rfl, rfl⟩
  go_wp2_with fail
  go_ret
  exact ⟨rfl, HB6.out⟩
end Go.Proofs.Ytliblcjfccijjaa.AgdN
