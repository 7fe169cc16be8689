/- Slices of structs, for every program: how they lie, one of the call's own. -/
import Derived.Test.YtmkdemdeejhonaaDoorOwnA
import Derived.WalkKit
import Derived.Below
import Derived.Lib.Hide
import Derived.Sort.OwnSortedInts
import Derived.Shelf.GgSortFunc.RowK
namespace Go.Proofs.YtmkdemdeejhonaaDoor.Rw
open Go.RowKit Go.Sort
set_option linter.unusedVariables false
section
variable {α : Type} (enc : α → List Value) (k : Nat)
/-- One that lies there. -/
def At (w : World) (b o : Nat) (x : α) : Prop := ∀ j u, (enc x)[j]? = some u → w.cell? ⟨b, o + j, none⟩ = some u
/-- A slice reads as a list. -/
def Rd [Inhabited α] (w : World) (ad : Option Addr) (l : List α) : Prop := l = [] ∨ ∃ b off, ad = some ⟨b, off, none⟩ ∧ b < w.heap.size ∧ ∀ i, i < l.length → At enc w b (off + i * k) (l.getD i default)
/-- A slice of the call's own. -/
def OwnS (e : TypeId) (w : World) (base : Nat) (v : Value) (l : List α) : Prop := w.ownsRow base e k v l.length (l.flatMap enc)
/-- What a call leaves that hands back such a slice. -/
def Post (e : TypeId) (l : List α) (w : World) (x : Ending) (w' : World) : Prop :=
  ∃ ad cap, x = .returned (.slice ad l.length cap) ∧ OwnS enc k e w' w.heap.size (.slice ad l.length cap) l ∧ Below w.heap.size w w'
variable {enc k} {e : TypeId}
theorem At.below {w w' : World} {n b o : Nat} {x : α} (h : At enc w b o x) (hB : Below n w w') (hb : b < n) : At enc w' b o x :=
  fun j u hu => (hB.cell (p := ⟨b, _, none⟩) hb).trans (h j u hu)
theorem Rd.below [Inhabited α] {w w' : World} {ad : Option Addr} {l : List α} (h : Rd enc k w ad l) (hB : Below w.heap.size w w') : Rd enc k w' ad l := by
  rcases h with rfl | ⟨b, off, e, hb, hc⟩
  · exact .inl rfl
  · exact .inr ⟨b, off, e, Nat.lt_of_lt_of_le hb hB.size, fun i hi => (hc i hi).below hB hb⟩
theorem Rd.take [Inhabited α] {w : World} {ad : Option Addr} {l : List α} (h : Rd enc k w ad l) (m : Nat) : Rd enc k w ad (l.take m) := by
  rcases h with rfl | ⟨b, off, e, hb, hc⟩
  · exact .inl (by simp)
  · refine .inr ⟨b, off, e, hb, fun i hi => ?_⟩
    rw [List.length_take] at hi
    have := hc i (by omega)
    simpa [List.getD, show i < m from by omega] using this
theorem Rd.at_ [Inhabited α] {w : World} {ad : Option Addr} {l : List α} (h : Rd enc k w ad l) {i : Nat} (hi : i < l.length) : ∃ b off, ad = some ⟨b, off, none⟩ ∧ b < w.heap.size ∧ At enc w b (off + i * k) (l.getD i default) := by
  rcases h with rfl | ⟨b, off, e, hb, hc⟩
  · simp at hi
  · exact ⟨b, off, e, hb, hc i hi⟩
theorem Rd.kept [Inhabited α] {w w' : World} {ad : Option Addr} {l : List α} {row : Option Nat} (h : Rd enc k w ad l) (hg : w.grownBy w' row) (hne : ∀ b off, ad = some ⟨b, off, none⟩ → some b ≠ row) : Rd enc k w' ad l := by
  rcases h with h | ⟨b, off, e, hb, hc⟩
  · exact .inl h
  · exact .inr ⟨b, off, e, Nat.lt_of_lt_of_le hb hg.size, fun i hi j u hu => hg.cell (hc i hi j u hu) (hne _ _ e)⟩
theorem flat_len (hk : ∀ x, (enc x).length = k) (l : List α) : (l.flatMap enc).length = l.length * k := by
  induction l with
  | nil => simp
  | cons a l ih => rw [List.flatMap_cons, List.length_append, ih, hk, List.length_cons, Nat.add_mul]; omega
theorem flat_at [Inhabited α] (hk : ∀ x, (enc x).length = k) (l : List α) (i j : Nat) (hi : i < l.length) (hj : j < k) : (l.flatMap enc)[i * k + j]? = (enc (l.getD i default))[j]? := by
  induction l generalizing i with
  | nil => simp at hi
  | cons a l ih =>
    rw [List.flatMap_cons]
    cases i with
    | zero => rw [Nat.zero_mul, Nat.zero_add, List.getElem?_append_left (by rw [hk]; exact hj)]; simp
    | succ i =>
      rw [List.getElem?_append_right (by rw [hk, Nat.add_mul]; omega), hk, show (i + 1) * k + j - k = i * k + j by rw [Nat.add_mul]; omega, ih i (by simpa using hi)]
      simp
theorem OwnS.rd [Inhabited α] (hk : ∀ x, (enc x).length = k) {w : World} {base n cap : Nat} {ad : Option Addr} {l : List α} (h : OwnS enc k e w base (.slice ad n cap) l) : Rd enc k w ad l ∧ n = l.length := by
  have h' := h
  rcases h'.2 with ⟨hv, hz⟩ | ⟨g, cap', cur, hv, _, hg, _⟩
  · cases hv
    exact ⟨.inl (List.eq_nil_of_length_eq_zero hz), hz.symm⟩
  · simp only [Value.slice.injEq] at hv
    obtain ⟨rfl, rfl, rfl⟩ := hv
    refine ⟨.inr ⟨g, 0, rfl, (Array.getElem?_eq_some_iff.1 hg).1, fun i hi j u hu => ?_⟩, rfl⟩
    have hj : j < k := by rw [← hk (l.getD i default)]; exact (List.getElem?_eq_some_iff.1 hu).1
    have hlt : i * k + j < l.length * k := by
      calc i * k + j < i * k + k := by omega
        _ = (i + 1) * k := by rw [Nat.add_mul]; omega
        _ ≤ l.length * k := Nat.mul_le_mul_right k hi
    rw [Nat.zero_add, World.ownsRow.cellAt h (i * k + j) hlt, flat_at hk l i j hi hj, hu]
theorem OwnS.pos {w : World} {base n cap : Nat} {ad : Option Addr} {l : List α} (h : OwnS enc k e w base (.slice ad n cap) l) : l.length ≤ cap ∧ cap ≤ maxLen ∧ (0 < cap → ∃ g, ad = some ⟨g, 0, none⟩ ∧ base ≤ g ∧ g < w.heap.size) ∧ (ad = none → cap = 0) := by
  have h' := h
  rcases h'.2 with ⟨hv, hz⟩ | ⟨g, cap', cur, hv, hb, hg, hn, hm, _⟩
  · cases hv
    exact ⟨by omega, by unfold maxLen; omega, fun h => absurd h (by omega), fun _ => rfl⟩
  · simp only [Value.slice.injEq] at hv
    obtain ⟨rfl, rfl, rfl⟩ := hv
    exact ⟨hn, hm, fun _ => ⟨g, rfl, hb, (Array.getElem?_eq_some_iff.1 hg).1⟩, fun h => by cases h⟩
theorem OwnS.alloc {w : World} {base : Nat} {v : Value} {l : List α} (h : OwnS enc k e w base v l) (o : Obj) : OwnS enc k e (w.alloc o) base v l := World.ownsRow.alloc h o
theorem OwnS.kept {w w' : World} {base : Nat} {v : Value} {l : List α} {row : Option Nat} (h : OwnS enc k e w base v l) (hg : w.grownBy w' row) (hne : v.ownBlock = none ∨ v.ownBlock ≠ row) : OwnS enc k e w' base v l := World.ownsRow.kept h hg hne
theorem OwnS.mono {w : World} {base b' : Nat} {v : Value} {l : List α} (h : OwnS enc k e w base v l) (hb : b' ≤ base) : OwnS enc k e w b' v l := Own.mono h hb
/-- It is kept by whatever leaves alone what lay there. -/
theorem OwnS.below {w w' : World} {base : Nat} {v : Value} {l : List α} (h : OwnS enc k e w base v l) (hB : Below w.heap.size w w') : OwnS enc k e w' base v l :=
  World.ownsRow.kept h (row := Option.none) ⟨hB.os, hB.tape, hB.output, hB.size, fun j hj _ => hB.block j hj⟩ (by cases hv : v.ownBlock <;> simp)
theorem OwnS.snoc (hk : ∀ x, (enc x).length = k) {w : World} {base : Nat} {v : Value} {l : List α} {x : α} (h : w.ownsRow base e k v (l.length + 1) (l.flatMap enc ++ enc x)) : OwnS enc k e w base v (l ++ [x]) := by
  unfold OwnS
  rw [List.length_append, List.flatMap_append, List.flatMap_singleton]
  exact h
theorem OwnS.nil (w : World) (base : Nat) : OwnS enc k e w base (.slice none 0 0) [] := World.ownsRow_nil _ _ _ _
theorem OwnS.lit (w : World) (l : List α) (hk : ∀ x, (enc x).length = k) (hm : l.length ≤ maxLen) : OwnS enc k e (w.alloc (.cells (l.flatMap enc).toArray e)) w.heap.size (.slice (some ⟨w.heap.size, 0, none⟩) l.length l.length) l := by
  have := World.ownsRow_lit (e := e) (size := k) w (l.flatMap enc).toArray l.length (Nat.le_refl _) hm (by rw [List.size_toArray, flat_len hk])
  rwa [List.toList_toArray] at this
/-- A value that is boxed. -/
theorem At.box (w : World) (x : α) (vs : Array Value) (hv : vs.toList = enc x) : At enc (w.alloc (.cells vs e)) w.heap.size 0 x := fun j u hu => by
  have h := (MapKept.heap_alloc w (.cells vs e)).1
  rw [Nat.zero_add]
  simp only [World.cell?, h]
  rw [← hv] at hu
  simpa using hu
end
end Go.Proofs.YtmkdemdeejhonaaDoor.Rw
