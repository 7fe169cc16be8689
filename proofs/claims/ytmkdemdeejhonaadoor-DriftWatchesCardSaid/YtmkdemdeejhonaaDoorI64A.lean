/- Lists of whole numbers of 64 bits in memory: slices of int64 that read as a list, those of the call's own, for every program. -/
import Derived.Test.YtmkdemdeejhonaaDoorRows
import Derived.WalkKit
import Derived.WalkLawsBesides
import Derived.WalkSpells
import Derived.ProofKit
import Derived.Handy
import Derived.Lib.Hide
import Derived.Maps.AppendAt
import Derived.Deep.Slices
import Derived.OpenShut
import Derived.Test.YtmkdemdeejhonaaDoorOwnA
namespace Go.Proofs.YtmkdemdeejhonaaDoor.I64s
open Go.ChangeShapes Go.WideShapes Go.ChangeAt Go.RowKit Go.Deep
set_option linter.unusedVariables false

/-- A slice of integers that reads as a list. -/
def Rd (w : World) (ad : Option Addr) (zs : List Int) : Prop :=
  zs = [] ∨ ∃ b off, ad = some ⟨b, off, none⟩ ∧ ∀ i, i < zs.length → w.cell? ⟨b, off + i, none⟩ = some (.int .i64 (zs.getD i 0))
theorem Rd.at {w : World} {ad : Option Addr} {zs : List Int} (h : Rd w ad zs) {k : Nat} (hk : k < zs.length) : ∃ b off, ad = some ⟨b, off, none⟩ ∧ w.cell? ⟨b, off + k, none⟩ = some (.int .i64 (zs.getD k 0)) := by
  rcases h with rfl | ⟨b, off, e, hc⟩
  · simp at hk
  · exact ⟨b, off, e, hc k hk⟩
theorem take_succ' {zs : List Int} {k : Nat} (hk : k < zs.length) : zs.take (k + 1) = zs.take k ++ [zs.getD k 0] := by
  rw [List.take_succ_eq_append_getElem hk]; simp [hk]
theorem getD_mem {zs : List Int} {k : Nat} (hk : k < zs.length) : zs.getD k 0 ∈ zs := by
  have : zs.getD k 0 = zs[k] := by simp [hk]
  rw [this]; exact List.getElem_mem hk

theorem info64 : (Tryd.prog.info? 2).map (fun i => (i.zero, i.size, i.bytes)) = some (some (.int .i64 0), 1, 8) := by kernel_rfl

/-- A slice of integers of the call's own. -/
def OwnL (W : World) (base : Nat) (v : Value) (zs : List Int) : Prop := W.ownsRow base 2 1 v zs.length (zs.map (Value.int .i64))
theorem OwnL.rd {W : World} {base n cap : Nat} {ad : Option Addr} {zs : List Int} (h : OwnL W base (.slice ad n cap) zs) : Rd W ad zs ∧ n = zs.length := by
  have h' := h
  rcases h'.2 with ⟨hv, hz⟩ | ⟨g, cap', cur, hv, _⟩
  · cases hv
    exact ⟨.inl (List.eq_nil_of_length_eq_zero hz), hz.symm⟩
  · simp only [Value.slice.injEq] at hv
    obtain ⟨rfl, rfl, rfl⟩ := hv
    refine ⟨.inr ⟨g, 0, rfl, fun i hi => ?_⟩, rfl⟩
    have := World.ownsRow.cellAt h i (by omega)
    rw [Nat.zero_add, this]
    simp [hi]
theorem OwnL.alloc {W : World} {base : Nat} {v : Value} {zs : List Int} (h : OwnL W base v zs) (o : Obj) : OwnL (W.alloc o) base v zs := World.ownsRow.alloc h o
theorem OwnL.snoc {W : World} {base : Nat} {v : Value} {zs : List Int} {x : Int} (h : W.ownsRow base 2 1 v (zs.length + 1) (zs.map (Value.int .i64) ++ [.int .i64 x])) : OwnL W base v (zs ++ [x]) := by
  unfold OwnL
  rw [List.length_append, List.map_append]
  exact h
/-- What a call leaves that hands back a list. -/
def ListPost (zs : List Int) (w : World) (e : Ending) (w' : World) : Prop :=
  ∃ ad cap, e = .returned (.slice ad zs.length cap) ∧ OwnL w' w.heap.size (.slice ad zs.length cap) zs ∧ Below w.heap.size w w'

theorem Rd.lt {w : World} {b off : Nat} {zs : List Int} (hc : ∀ i, i < zs.length → w.cell? ⟨b, off + i, none⟩ = some (.int .i64 (zs.getD i 0))) (h0 : 0 < zs.length) : b < w.heap.size := by
  have h := hc 0 h0
  by_cases hb : b < w.heap.size
  · exact hb
  · rw [World.cell?, Array.getElem?_eq_none (show w.heap.size ≤ b by omega)] at h
    simp at h
theorem Rd.below {w w' : World} {ad : Option Addr} {zs : List Int} (h : Rd w ad zs) (hb : Below w.heap.size w w') : Rd w' ad zs := by
  rcases h with h | ⟨b, off, e, hc⟩
  · exact .inl h
  · by_cases h0 : 0 < zs.length
    · exact .inr ⟨b, off, e, fun i hi => (hb.cell (p := ⟨b, off + i, none⟩) (Rd.lt hc h0)).trans (hc i hi)⟩
    · exact .inl (List.eq_nil_of_length_eq_zero (by omega))
theorem Rd.cells {w : World} {ad : Option Addr} {zs : List Int} (h : Rd w ad zs) : ∀ a', ad = some a' → ∀ j u, (zs.map (Value.int .i64))[j]? = some u → w.cell? (a'.add j) = some u := by
  intro a' ha j u hj
  rcases h with h' | ⟨b, off, e, hc⟩
  · rw [h'] at hj; simp at hj
  · obtain rfl : a' = ⟨b, off, none⟩ := by rw [ha] at e; exact Option.some.inj e
    rw [List.getElem?_map] at hj
    obtain ⟨y, hy, rfl⟩ := Option.map_eq_some_iff.1 hj
    have hjl : j < zs.length := (List.getElem?_eq_some_iff.1 hy).1
    have := hc j hjl
    rw [Addr.add_lit, this]
    simp [List.getD, hy]
theorem OwnL.pos {W : World} {base n cap : Nat} {ad : Option Addr} {zs : List Int} (h : OwnL W base (.slice ad n cap) zs) : zs.length ≤ cap ∧ cap ≤ maxLen ∧ (0 < cap → ∃ g, ad = some ⟨g, 0, none⟩ ∧ base ≤ g ∧ g < W.heap.size) := by
  have h' := h
  rcases h'.2 with ⟨hv, hz⟩ | ⟨g, cap', cur, hv, hb, hg, hn, hm, _⟩
  · cases hv
    exact ⟨by omega, by unfold maxLen; omega, fun h => absurd h (by omega)⟩
  · simp only [Value.slice.injEq] at hv
    obtain ⟨rfl, rfl, rfl⟩ := hv
    exact ⟨hn, hm, fun _ => ⟨g, rfl, hb, (Array.getElem?_eq_some_iff.1 hg).1⟩⟩

theorem OwnL.below {W W' : World} {base : Nat} {v : Value} {zs : List Int} (h : OwnL W base v zs) (hb : Below W.heap.size W W') : OwnL W' base v zs :=
  World.ownsRow.kept h (row := Option.none) ⟨hb.os, hb.tape, hb.output, hb.size, fun k hk _ => hb.block k hk⟩ (by
    cases hv : v.ownBlock with
    | none => exact .inl rfl
    | some g => exact .inr (by simp))
/-- Within 64 bits. -/
def In64 (zs : List Int) : Prop := ∀ x ∈ zs, -9223372036854775808 ≤ x ∧ x ≤ 9223372036854775807
theorem In64.take {zs : List Int} (h : In64 zs) (k : Nat) : In64 (zs.take k) := fun x hx => h x (List.mem_of_mem_take hx)
theorem In64.at {zs : List Int} (h : In64 zs) {k : Nat} (hk : k < zs.length) : -9223372036854775808 ≤ zs.getD k 0 ∧ zs.getD k 0 ≤ 9223372036854775807 := h _ (getD_mem hk)
/-- A slice that reads as a list, with its room. -/
structure Sl (w : World) (ad : Option Addr) (cap : Nat) (zs : List Int) : Prop where
  rd : Rd w ad zs
  le : zs.length ≤ cap
  mx : cap ≤ 9223372036854775807
  nil : ad = none → cap = 0
theorem Sl.below {w w' : World} {ad : Option Addr} {cap : Nat} {zs : List Int} (h : Sl w ad cap zs) (hb : Below w.heap.size w w') : Sl w' ad cap zs := ⟨h.rd.below hb, h.le, h.mx, h.nil⟩
/-- One of its numbers, in every world that has grown out of this one. -/
theorem Sl.at {w : World} {ad : Option Addr} {cap : Nat} {zs : List Int} (h : Sl w ad cap zs) {k : Nat} (hk : k < zs.length) : ∃ b off, ad = some ⟨b, off, none⟩ ∧ ∀ W, Below w.heap.size w W → W.cell? ⟨b, off + k, none⟩ = some (.int .i64 (zs.getD k 0)) := by
  rcases h.rd with rfl | ⟨b, off, e, hc⟩
  · simp at hk
  · exact ⟨b, off, e, fun W hW => (hW.cell (p := ⟨b, off + k, none⟩) (Rd.lt hc (by omega))).trans (hc k hk)⟩
theorem Rd.take {w : World} {ad : Option Addr} {zs : List Int} (h : Rd w ad zs) (k : Nat) : Rd w ad (zs.take k) := by
  rcases h with rfl | ⟨b, off, e, hc⟩
  · exact .inl (by simp)
  · refine .inr ⟨b, off, e, fun i hi => ?_⟩
    rw [List.length_take] at hi
    rw [hc i (by omega)]
    simp [List.getD, show i < k by omega]
theorem Rd.drop {w : World} {b off : Nat} {zs : List Int} (h : Rd w (some ⟨b, off, none⟩) zs) (k : Nat) : Rd w (some ⟨b, off + k, none⟩) (zs.drop k) := by
  rcases h with rfl | ⟨b', off', e, hc⟩
  · exact .inl (by simp)
  · simp only [Option.some.injEq, Addr.mk.injEq] at e
    obtain ⟨rfl, rfl, -⟩ := e
    refine .inr ⟨b, off + k, rfl, fun i hi => ?_⟩
    rw [List.length_drop] at hi
    rw [Nat.add_assoc, hc (k + i) (by omega)]
    simp [List.getD]
theorem OwnL.sl {W : World} {base n cap : Nat} {ad : Option Addr} {zs : List Int} (h : OwnL W base (.slice ad n cap) zs) : Sl W ad cap zs := by
  obtain ⟨h1, h2, h3⟩ := h.pos
  unfold maxLen at h2
  refine ⟨h.rd.1, h1, by omega, fun e => ?_⟩
  subst e
  by_cases hc : 0 < cap
  · obtain ⟨g, e, _⟩ := h3 hc; cases e
  · omega
theorem OwnL.blk {W : World} {base : Nat} {v : Value} {zs : List Int} (h : OwnL W base v zs) {g : Nat} (e : v.ownBlock = some g) : base ≤ g ∧ g < W.heap.size := by
  rcases h.2 with ⟨hv, _⟩ | ⟨g', cap', cur, hv, hb, hg, _⟩
  · rw [hv] at e; simp [Value.ownBlock] at e
  · rw [hv] at e
    simp [Value.ownBlock] at e
    subst e
    exact ⟨hb, (Array.getElem?_eq_some_iff.1 hg).1⟩
theorem OwnL.nil (W : World) (base : Nat) : OwnL W base (.slice none 0 0) [] := World.ownsRow_nil _ _ _ _
theorem ints_one (l : List Int) : ∀ u ∈ l.map (Value.int .i64), u.oneCell' = true := by
  intro u hu
  obtain ⟨x, _, rfl⟩ := List.mem_map.1 hu
  rfl
theorem info_parts : ∃ i, Tryd.prog.info? 2 = some i ∧ i.zero = some (.int .i64 0) ∧ i.size = 1 ∧ i.bytes = 8 := by
  obtain ⟨i, hi, he⟩ := Option.map_eq_some_iff.1 info64
  simp only [Prod.mk.injEq] at he
  exact ⟨i, hi, he.1, he.2.1, he.2.2⟩
/-- A slice that came in reads as a list of numbers. -/
theorem row_sl {w : World} {a : Option Addr} {len cap : Nat} {zs : List Int}
    (h : (a = none ∧ len = 0 ∧ cap = 0 ∧ zs = []) ∨ ∃ x, a = some x ∧ len ≤ cap ∧ cap ≤ maxLen ∧ zs.length = cap ∧ (∀ i, i < zs.length → w.cell? (x.add i) = some (.int .i64 (zs.getD i 0))) ∧ ∀ n ∈ zs, (Lit.int .i64 n).wf = true) :
    ∃ l : List Int, Sl w a cap l ∧ l.length = len ∧ In64 l := by
  rcases h with ⟨rfl, rfl, rfl, _⟩ | ⟨x, rfl, hl, hm, hz, hcell, hwf⟩
  · exact ⟨[], ⟨.inl rfl, Nat.le_refl _, by omega, fun _ => rfl⟩, rfl, fun x hx => by simp at hx⟩
  · unfold maxLen at hm
    by_cases h0 : len = 0
    · exact ⟨[], ⟨.inl rfl, Nat.zero_le _, by omega, fun h => by cases h⟩, by rw [h0]; rfl, fun x hx => by simp at hx⟩
    · obtain ⟨b, off, rfl, hc⟩ := ints_at hcell (by omega)
      refine ⟨zs.take len, ⟨.inr ⟨b, off, rfl, fun i hi => ?_⟩, by rw [List.length_take]; omega, by omega, fun h => by cases h⟩, by rw [List.length_take]; omega, fun y hy => ?_⟩
      · rw [List.length_take] at hi
        have h1 := hc i (by first | assumption | omega)
        rw [h1]
        simp [List.getD, show i < len by omega]
      · exact bounds_i64 (hwf y (List.mem_of_mem_take hy))
theorem tmp_cell (wr : World) (x : Int) (e : TypeId) : ∀ j u, ([Value.int .i64 x] : List Value)[j]? = some u → (wr.alloc (.cells #[.int .i64 x] e)).cell? ((⟨wr.heap.size, 0, none⟩ : Addr).add j) = some u := by
  intro j u hj
  rw [Addr.add_lit, Nat.zero_add]
  match j, hj with
  | 0, h =>
    simp only [List.getElem?_cons_zero, Option.some.injEq] at h
    subst h
    have hb : (wr.alloc (.cells #[.int .i64 x] e)).heap[wr.heap.size]? = some (.cells #[.int .i64 x] e (0, 0)) := (MapKept.heap_alloc wr _).1
    show (match (wr.alloc (.cells #[.int .i64 x] e)).heap[wr.heap.size]? with | some (.cells c elem frozen) => c[0]? | _ => none) = _
    rw [hb]
    rfl
/-- An append of one number. -/
theorem app_one {wr : World} {ops : Array Oper} {rest : List Oper} {o : Oper} {a : Act} {Q : Exit → Act → World → Prop} (hgd : o.guard = none) (s x : Operand)
    (ho : o.op = .call { callee := .builtin .append, args := #[s, x], argTypes := #[26, 26] }) (base : Nat) (v : Value) (L : List Int) (hs : a.eval s = v) (hown : OwnL wr base v L)
    (p : Int) (hx : a.eval x = .slice (some ⟨wr.heap.size, 0, none⟩) 1 1) (hl : L.length < 1099511627776) (hbase : base ≤ wr.heap.size)
    (h : ∀ v' w', OwnL w' base v' (L ++ [p]) → Below base wr w' → (∀ k, k < wr.heap.size → some k ≠ v.ownBlock → w'.heap[k]? = wr.heap[k]?) → (v'.ownBlock = v.ownBlock ∨ ∀ k, v'.ownBlock = some k → wr.heap.size ≤ k) → wpList Tryd.prog ops Q rest (a.put o.dst v') w') :
    wpList Tryd.prog ops Q (o :: rest) a (wr.alloc (.cells #[.int .i64 p] 2)) := by
  obtain ⟨i0, hi, hz0, hz1, hz2⟩ := info_parts
  refine Own.wpList_append2 _ hgd s x 26 ho base 2 i0 (.int .i64 0) 1 8 Tryd.underlying26 hi hz0 hz1 hz2 rfl (by decide) v L.length (L.map (Value.int .i64)) hs (World.ownsRow.alloc hown _) ⟨wr.heap.size, 0, none⟩ 1 1 [.int .i64 p] hx rfl (tmp_cell wr p _) (by simp [Value.oneCell']) (by unfold maxLen; omega) (by omega) (by rw [World.size_alloc]; omega) ?_
  intro v' w1 hown' hgrow _ hb
  refine h v' w1 (OwnL.snoc hown') (Own.below_append hown hbase hgrow) (fun k hk hne => ?_) (hb.imp id fun h k hk => by have := h k hk; rw [World.size_alloc] at this; omega)
  exact (hgrow.block k (by rw [World.size_alloc]; omega) hne).trans (Below.heap_alloc wr _ k hk)
/-- append(s, x...). -/
theorem app_all {W : World} {ops : Array Oper} {rest : List Oper} {o : Oper} {a : Act} {Q : Exit → Act → World → Prop} (hgd : o.guard = none) (s x : Operand)
    (ho : o.op = .call { callee := .builtin .append, args := #[s, x], argTypes := #[26, 26] })
    (B : Nat) (ad1 : Option Addr) (n1 cap1 : Nat) (l : List Int) (hs : a.eval s = .slice ad1 n1 cap1) (hown : OwnL W B (.slice ad1 n1 cap1) l)
    (ad2 : Option Addr) (n2 cap2 : Nat) (m : List Int) (hx : a.eval x = .slice ad2 n2 cap2) (hn2 : n2 = m.length) (hrd : Rd W ad2 m) (hnil : ad2 = none → cap2 = 0) (hlen : l.length + m.length ≤ 1000000) (hB : B ≤ W.heap.size)
    (h : ∀ l' ad' cap' w1, Hid (l' = l ++ m) → OwnL w1 B (.slice ad' l'.length cap') l' → Below B W w1 → (∀ k, k < W.heap.size → B ≤ k → some k ≠ (Value.slice ad1 n1 cap1).ownBlock → w1.heap[k]? = W.heap[k]?) → wpList Tryd.prog ops Q rest (a.put o.dst (.slice ad' l'.length cap')) w1) :
    wpList Tryd.prog ops Q (o :: rest) a W := by
  obtain ⟨i0, hi, hz0, hz1, hz2⟩ := info_parts
  obtain rfl : n1 = l.length := hown.rd.2
  have hown' := hown
  unfold OwnL at hown'
  have hnn : ad2 = none → n2 = 0 ∧ cap2 = 0 := fun e => by
    refine ⟨?_, hnil e⟩
    rcases hrd with hm | ⟨b, off, e', _⟩
    · rw [hn2, hm]; rfl
    · rw [e] at e'; cases e'
  refine Own.wpList_append2_any _ hgd s x 26 ho B 2 i0 (.int .i64 0) 1 8 Tryd.underlying26 hi hz0 hz1 hz2 rfl (by decide) (.slice ad1 l.length cap1) l.length (l.map (Value.int .i64)) hs hown' ad2 n2 cap2 (m.map (Value.int .i64)) hx (by rw [List.length_map, Nat.mul_one, hn2]) hnn (Rd.cells hrd) (ints_one _) (by unfold maxLen; omega) (by omega) hB ?_
  intro v' w1 h1 h2 h3
  rw [← List.map_append, hn2, ← List.length_append] at h1
  have ho1 : OwnL w1 B v' (l ++ m) := h1
  obtain ⟨ad', cap', rfl, -⟩ := Own.shape ho1
  refine h _ ad' cap' w1 (Lib.hid rfl) ho1 ((Below.refl _ _).grown h2 hB fun k e => ?_) fun k hk _ hne => h2.block k hk hne
  rcases hown.2 with ⟨hv, _⟩ | ⟨g, cap', cur, hv, hb, _⟩
  · rw [hv] at e; simp [Value.ownBlock] at e
  · rw [hv] at e; simp [Value.ownBlock] at e; omega
end Go.Proofs.YtmkdemdeejhonaaDoor.I64s
