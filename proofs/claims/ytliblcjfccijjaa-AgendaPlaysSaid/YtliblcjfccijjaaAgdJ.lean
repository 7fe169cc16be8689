/- An agenda all of whose blocks lie from B on, at int64 (layer 8); made by wip/gen/agn.py. -/
import Derived.Test.YtliblcjfccijjaaAgdH
namespace Go.Proofs.Ytliblcjfccijjaa.AgdL
open Go.ChangeShapes Go.WideShapes Go.ChangeAt Go.RowKit
open Go.Proofs.Ytliblcjfccijjaa.Rw Go.Proofs.Ytliblcjfccijjaa.Agd
set_option linter.unusedVariables false
set_option linter.unusedSimpArgs false
/-- An agenda all of whose blocks lie from B on. -/
def St (B : Nat) (g : Nat) (most : Int) (add : Nat) (l : List Th) (w : World) : Prop := B ≤ w.heap.size ∧ ∃ F, AgL w g most add l F ∧ ∀ k, F k → B ≤ k ∧ k < w.heap.size
theorem St.post {B g : Nat} {most : Int} {add add' : Nat} {l l' : List Th} {w w' : World} {F : Nat → Prop} (hB : B ≤ w.heap.size) (hF : ∀ k, F k → B ≤ k ∧ k < w.heap.size) (h : AgPost g most add' l' F w w') : St B g most add' l' w' ∧ Below B w w' := by
  have hs := h.2.size
  refine ⟨⟨by omega, _, h.1, fun k hk => ?_⟩, h.2.below (fun k hk => (hF k hk).1) hB⟩
  rcases hk with hk | hk
  · have := hF k hk; omega
  · omega
theorem St.stay {B g : Nat} {most : Int} {add add' : Nat} {l l' : List Th} {w w' : World} {F : Nat → Prop} (hB : B ≤ w.heap.size) (hF : ∀ k, F k → B ≤ k ∧ k < w.heap.size) (h : AgStay g most add' l' F w w') : St B g most add' l' w' ∧ Below B w w' := by
  have hs := h.2.size
  exact ⟨⟨by omega, F, h.1, fun k hk => by have := hF k hk; omega⟩, h.2.below (fun k hk => (hF k hk).1) hB⟩
theorem St.new (m : Int) (w : World) : Calls Try.prog 28 #[.int .i64 m] w fun e w' => ∃ g, e = .returned (.pointer (some ⟨g, 0, none⟩)) ∧ St w.heap.size g (min (max m 0) 65536) 0 [] w' ∧ Below w.heap.size w w' :=
  (new_any m w).mono fun e w' ⟨g, h1, h2, h3⟩ => ⟨g, h1, ⟨h3.size, _, h2, fun k hk => hk⟩, h3⟩
theorem St.add {B g : Nat} {most : Int} {add : Nat} {l : List Th} {w : World} (h : St B g most add l w) (due x : Int) (hm : 0 ≤ most ∧ most ≤ 65536) (hN : l.length ≤ 100000) (hA : add ≤ 100000) (hfull : ¬ (most - (l.length : Int) = 0)) :
    Calls Try.prog 31 #[.pointer (some ⟨g, 0, none⟩), .int .i64 due, .int .i64 x] w fun e w' => e = .returned (.int .i64 0) ∧ St B g most (add + 1) (l ++ [⟨due, add, x⟩]) w' ∧ Below B w w' := by
  obtain ⟨hB, F, h1, h2⟩ := h
  exact (add_any due x g most add l F w h1 hm hN hA hfull).mono fun e w' ⟨e1, e2⟩ => ⟨e1, St.post (add := add) (l := l) hB h2 e2⟩
theorem St.full {B g : Nat} {most : Int} {add : Nat} {l : List Th} {w : World} (h : St B g most add l w) (due x : Int) (hm : 0 ≤ most ∧ most ≤ 65536) (hN : l.length ≤ 100000) (hfull : most - (l.length : Int) = 0) :
    Calls Try.prog 31 #[.pointer (some ⟨g, 0, none⟩), .int .i64 due, .int .i64 x] w fun e w' => e = .returned (.int .i64 13) ∧ St B g most add l w' ∧ Below B w w' := by
  obtain ⟨hB, F, h1, h2⟩ := h
  exact (add_full due x g most add l F w h1 hm hN hfull).mono fun e w' ⟨e1, e2⟩ => ⟨e1, St.stay (add := add) (l := l) hB h2 e2⟩
theorem St.drain {B g : Nat} {most : Int} {add : Nat} {l : List Th} {w : World} (h : St B g most add l w) (now : Int) (hN : l.length ≤ 100000) :
    Calls Try.prog 34 #[.pointer (some ⟨g, 0, none⟩), .int .i64 now] w fun e w' => ∃ ad cap, e = .returned (.slice ad (DR now l).1.length cap) ∧ OwnI w' w.heap.size (.slice ad (DR now l).1.length cap) ((DR now l).1.map Th.x) ∧ St B g most add (DR now l).2 w' ∧ Below B w w' := by
  obtain ⟨hB, F, h1, h2⟩ := h
  exact (drain_any now g most add l F w h1 hN (fun k hk => (h2 k hk).2)).mono fun e w' ⟨ad, cap, e1, e2, e3⟩ => ⟨ad, cap, e1, e2, St.stay (add := add) (l := l) hB h2 e3⟩
theorem St.next {B g : Nat} {most : Int} {add : Nat} {l : List Th} {w : World} (h : St B g most add l w) (hN : l.length ≤ 100000) :
    Calls Try.prog 35 #[.pointer (some ⟨g, 0, none⟩)] w fun e w' => e = .returned (.tuple #[.int .i64 (nd l), .bool (some1 l)]) ∧ w = w' := by
  obtain ⟨hB, F, h1, h2⟩ := h
  exact next_ag g most add l F w h1 (by omega)
theorem St.len {B g : Nat} {most : Int} {add : Nat} {l : List Th} {w : World} (h : St B g most add l w) :
    Calls Try.prog 37 #[.pointer (some ⟨g, 0, none⟩)] w fun e w' => e = .returned (.int .i64 (l.length : Nat)) ∧ w = w' := by
  obtain ⟨hB, F, h1, h2⟩ := h
  exact len_any g most add l F w h1
theorem own_cells {w : World} {base : Nat} {ad : Option Addr} {n cap : Nat} {xs : List Int} (h : OwnI w base (.slice ad n cap) xs) {i : Nat} (hi : i < xs.length) : ∃ b, ad = some ⟨b, 0, none⟩ ∧ w.cell? ⟨b, i, none⟩ = some (.int .i64 (xs.getD i 0)) ∧ base ≤ b := by
  have h' := h
  rcases h'.2 with ⟨hv, hz⟩ | ⟨g, cap', cur, hv, hb, hg, _⟩
  · omega
  · simp only [Value.slice.injEq] at hv
    obtain ⟨rfl, rfl, rfl⟩ := hv
    refine ⟨g, rfl, ?_, hb⟩
    rw [World.ownsRow.cellAt h i (by omega)]
    have := flat_at (enc := encI) encI_len xs i 0 hi (by omega)
    rw [Nat.mul_one, Nat.add_zero] at this
    rw [this]
    rfl
theorem St.below {B g : Nat} {most : Int} {add : Nat} {l : List Th} {w w' : World} (h : St B g most add l w) (hB : Below w.heap.size w w') : St B g most add l w' := by
  obtain ⟨h1, F, h2, h3⟩ := h
  have := hB.size
  exact ⟨by omega, F, h2.below hB, fun k hk => by have := h3 k hk; omega⟩
end Go.Proofs.Ytliblcjfccijjaa.AgdL
