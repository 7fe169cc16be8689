/- OwnA RowA, laid into one. -/
import Derived.ArgAppend
import Derived.OwnWalkIn
import Derived.Laws.OwnMore
import Derived.Below
import Derived.WalkSmall
import Derived.WalkKit
import Derived.Lib.Hide
import Derived.Sort.OwnSortedInts
import Derived.Shelf.GgSortFunc.RowK
/-! OwnA -/
namespace Go.Proofs.Ytpenopeecfgjjaa.Own
open Go.RowKit
variable {P : Program} {w : World} {base : Nat} {e : TypeId} {size : Nat}

theorem mono {b' : Nat} {v : Value} {n : Nat} {xs : List Value} (h : w.ownsRow base e size v n xs) (hb : b' ≤ base) : w.ownsRow b' e size v n xs := by
  refine ⟨h.1, ?_⟩
  rcases h.2 with hn | ⟨g, cap, cur, hv, hg, rest⟩
  · exact .inl hn
  · exact .inr ⟨g, cap, cur, hv, Nat.le_trans hb hg, rest⟩

theorem run_append2 (t ty : TypeId) (i : TypeInfo) (z : Value) (bytes : Nat) (ht : P.underlying t = some (.slice e)) (hi : P.info? e = some i) (hz : i.zero = some z)
    (hsize : i.size = size) (hby : i.bytes = bytes) (hzs : z.cells.size = size) (hsz : 0 < size)
    (v : Value) (n : Nat) (xs : List Value) (hown : w.ownsRow base e size v n xs)
    (a : Addr) (m c : Nat) (news : List Value) (hl : news.length = m * size) (hnews : ∀ j u, news[j]? = some u → w.cell? (a.add j) = some u) (h1 : ∀ u ∈ news, u.oneCell' = true)
    (h63 : n + m ≤ maxLen) (hbytes : (n + m) * bytes ≤ 140737488355328) (hbase : base ≤ w.heap.size) :
    ∃ v' w', (Builtin.append_ #[t, t] ty #[v, .slice (some a) m c]).run P w = .ok v' w' ∧ w'.ownsRow base e size v' (n + m) (xs ++ news) ∧ w.grownBy w' v.ownBlock ∧
      (v' = .slice none 0 0 ↔ v = .slice none 0 0 ∧ m = 0) ∧ (v'.ownBlock = v.ownBlock ∨ ∀ k, v'.ownBlock = some k → w.heap.size ≤ k) := by
  have hfar : ∀ {w' : World} {v' : Value} {k : Nat} {ys : List Value}, w'.ownsRow w.heap.size e size v' k ys → ∀ j, v'.ownBlock = some j → w.heap.size ≤ j := fun h j hj => (h.lt j hj).1
  rcases hown.2 with ⟨rfl, rfl⟩ | ⟨g, cap, cur, rfl, hb, hg, hnc, hcm, hcs, htake⟩
  · have hx : xs = [] := List.eq_nil_of_length_eq_zero (by simpa using hown.1)
    subst hx
    obtain ⟨v', w', hr, h2, h3, h4⟩ := run_append_own (P := P) w w.heap.size t ty e i z size bytes ht hi hz hsize hby hzs hsz _ 0 [] (World.ownsRow_nil w _ e size) a m c news hl hnews h1 h63 hbytes (Nat.le_refl _)
    exact ⟨v', w', hr, mono h2 hbase, h3, h4, .inr (hfar h2)⟩
  · by_cases hroom : n + m ≤ cap
    · obtain ⟨w', hr, h2, h3⟩ := run_append_fits (P := P) w base t ty e i size ht hi hsize g n cap xs hown a m c news hl hnews h1 hroom
      exact ⟨_, w', hr, h2, h3, by simp, .inl rfl⟩
    · obtain ⟨v', w', hr, h2, h3⟩ := run_append_arg_grows (P := P) (w := w) t ty e i z size bytes ht hi hz hsize hby hzs hsz ⟨g, 0, none⟩ n cap xs hown.1 (fun j u hj => hown.cells (g := g) rfl j u hj) a m c news hl hnews (by omega) h63 hbytes
      refine ⟨v', w', hr, mono h2 hbase, ⟨h3.os, h3.tape, h3.output, h3.size, fun k hk _ => h3.block k hk (by simp)⟩, ?_, .inr (hfar h2)⟩
      constructor
      · rintro rfl
        rcases h2.2 with ⟨_, h0⟩ | ⟨g', cap', cur', hv', _⟩
        · omega
        · cases hv'
      · rintro ⟨hv, _⟩; cases hv

theorem wpList_append2 (w : World) {ops : Array Oper} {rest : List Oper} {o : Oper} {a : Act} {Q : Exit → Act → World → Prop} (hgd : o.guard = none) (s x : Operand) (t : TypeId)
    (ho : o.op = .call { callee := .builtin .append, args := #[s, x], argTypes := #[t, t] })
    (base : Nat) (e : TypeId) (i : TypeInfo) (z : Value) (size bytes : Nat) (ht : P.underlying t = some (.slice e)) (hi : P.info? e = some i) (hz : i.zero = some z)
    (hsize : i.size = size) (hby : i.bytes = bytes) (hzs : z.cells.size = size) (hsz : 0 < size)
    (v : Value) (n : Nat) (xs : List Value) (hs : a.eval s = v) (hown : w.ownsRow base e size v n xs)
    (ad : Addr) (m c : Nat) (news : List Value) (hx : a.eval x = .slice (some ad) m c) (hl : news.length = m * size) (hnews : ∀ j u, news[j]? = some u → w.cell? (ad.add j) = some u) (h1 : ∀ u ∈ news, u.oneCell' = true)
    (h63 : n + m ≤ maxLen) (hbytes : (n + m) * bytes ≤ 140737488355328) (hbase : base ≤ w.heap.size)
    (h : ∀ v' w', w'.ownsRow base e size v' (n + m) (xs ++ news) → w.grownBy w' v.ownBlock → (v' = .slice none 0 0 ↔ v = .slice none 0 0 ∧ m = 0) → (v'.ownBlock = v.ownBlock ∨ ∀ k, v'.ownBlock = some k → w.heap.size ≤ k) →
      wpList P ops Q rest (a.put o.dst v') w') : wpList P ops Q (o :: rest) a w := by
  refine wpList_plain hgd fun K hK' => ?_
  obtain ⟨v', w', hrun, r1, r2, r3, r4⟩ := run_append2 (P := P) (w := w) (base := base) (e := e) (size := size) t o.type i z bytes ht hi hz hsize hby hzs hsz v n xs hown ad m c news hl hnews h1 h63 hbytes hbase
  unfold Oper.wp
  simp [execOp, ho, resolve, invoke, builtin, hs, hx, hrun, Result.andThen]
  exact hK' _ _ (h v' w' r1 r2 r3 r4)

/-- At a step of a region that draws its order, inside a fence. -/
theorem stepIn_append2 {F : Fence} {fn : Nat} {ops : Array Oper} {o : Oper} {a : Act} {K : Act → World → Prop} {Q : Exit → Act → World → Prop} {E : Prop} (w : World) (hgd : o.guard = none) (s x : Operand) (t : TypeId)
    (ho : o.op = .call { callee := .builtin .append, args := #[s, x], argTypes := #[t, t] })
    (base : Nat) (e : TypeId) (i : TypeInfo) (z : Value) (size bytes : Nat) (ht : P.underlying t = some (.slice e)) (hi : P.info? e = some i) (hz : i.zero = some z)
    (hsize : i.size = size) (hby : i.bytes = bytes) (hzs : z.cells.size = size) (hsz : 0 < size)
    (v : Value) (n : Nat) (xs : List Value) (hs : a.eval s = v) (hown : w.ownsRow base e size v n xs)
    (ad : Addr) (m c : Nat) (news : List Value) (hx : a.eval x = .slice (some ad) m c) (hl : news.length = m * size) (hnews : ∀ j u, news[j]? = some u → w.cell? (ad.add j) = some u) (h1 : ∀ u ∈ news, u.oneCell' = true)
    (h63 : n + m ≤ maxLen) (hbytes : (n + m) * bytes ≤ 140737488355328) (hbase : base ≤ w.heap.size)
    (h : ∀ v' w', w'.ownsRow base e size v' (n + m) (xs ++ news) → w.grownBy w' v.ownBlock → (v' = .slice none 0 0 ↔ v = .slice none 0 0 ∧ m = 0) → (v'.ownBlock = v.ownBlock ∨ ∀ k, v'.ownBlock = some k → w.heap.size ≤ k) →
      K (a.put o.dst v') w') : if Region.wanted o (yielded ops a.tmps) = true then Oper.wpIn F fn P o a w K Q else E := by
  have hw : Region.wanted o (yielded ops a.tmps) = true := by simp [Region.wanted, hgd]
  rw [if_pos hw]
  obtain ⟨v', w', hrun, r1, r2, r3, r4⟩ := run_append2 (P := P) (w := w) (base := base) (e := e) (size := size) t o.type i z bytes ht hi hz hsize hby hzs hsz v n xs hown ad m c news hl hnews h1 h63 hbytes hbase
  unfold Oper.wpIn
  refine ⟨?_, ?_⟩
  · simp [Oper.about, ho, resolve, Target.leads, Sem.run_pure]
  · rw [Oper.semAt_plain F _ _ (by rw [ho]; intro c hc'; cases hc')]
    simp [execOp, ho, resolve, invoke, builtin, hs, hx, hrun, Result.andThen]
    exact h v' w' r1 r2 r3 r4
/-- The same, whatever the source's address: a nil source has nothing. -/
theorem wpList_append2_any (w : World) {ops : Array Oper} {rest : List Oper} {o : Oper} {a : Act} {Q : Exit → Act → World → Prop} (hgd : o.guard = none) (s x : Operand) (t : TypeId)
    (ho : o.op = .call { callee := .builtin .append, args := #[s, x], argTypes := #[t, t] })
    (base : Nat) (e : TypeId) (i : TypeInfo) (z : Value) (size bytes : Nat) (ht : P.underlying t = some (.slice e)) (hi : P.info? e = some i) (hz : i.zero = some z)
    (hsize : i.size = size) (hby : i.bytes = bytes) (hzs : z.cells.size = size) (hsz : 0 < size)
    (v : Value) (n : Nat) (xs : List Value) (hs : a.eval s = v) (hown : w.ownsRow base e size v n xs)
    (ao : Option Addr) (m c : Nat) (news : List Value) (hx : a.eval x = .slice ao m c) (hl : news.length = m * size) (hnone : ao = none → m = 0 ∧ c = 0)
    (hnews : ∀ ad, ao = some ad → ∀ j u, news[j]? = some u → w.cell? (ad.add j) = some u) (h1 : ∀ u ∈ news, u.oneCell' = true)
    (h63 : n + m ≤ maxLen) (hbytes : (n + m) * bytes ≤ 140737488355328) (hbase : base ≤ w.heap.size)
    (h : ∀ v' w', w'.ownsRow base e size v' (n + m) (xs ++ news) → w.grownBy w' v.ownBlock → (v'.ownBlock = v.ownBlock ∨ ∀ k, v'.ownBlock = some k → w.heap.size ≤ k) →
      wpList P ops Q rest (a.put o.dst v') w') : wpList P ops Q (o :: rest) a w := by
  cases ao with
  | some ad => exact wpList_append2 w hgd s x t ho base e i z size bytes ht hi hz hsize hby hzs hsz v n xs hs hown ad m c news hx hl (hnews ad rfl) h1 h63 hbytes hbase fun v' w' h2 h3 _ h5 => h v' w' h2 h3 h5
  | none =>
    obtain ⟨rfl, rfl⟩ := hnone rfl
    have hn : news = [] := List.eq_nil_of_length_eq_zero (by simpa using hl)
    subst hn
    refine wpList_plain hgd fun K hK' => ?_
    have hrun := run_append_owned_none (P := P) w base t o.type e i size ht hi v n xs hown
    unfold Oper.wp
    simp [execOp, ho, resolve, invoke, builtin, hs, hx, hrun, Result.andThen]
    exact hK' _ _ (h v w (by simpa using hown) (World.grownBy.refl _ _) (.inl rfl))

/-- What lay below stays behind an append to a slice of the call's own. -/
theorem below_append {W w1 : World} {n₀ : Nat} {v : Value} {k : Nat} {xs : List Value} {tmp : Obj} (hrow : W.ownsRow n₀ e size v k xs) (hn₀ : n₀ ≤ W.heap.size) (hgrow : (W.alloc tmp).grownBy w1 v.ownBlock) : Below n₀ W w1 :=
  ((Below.refl n₀ W).alloc hn₀ tmp).grown hgrow (by simp; omega) fun j ej => (hrow.lt j ej).1
/-- A cell of another block stays, too. -/
theorem cell_append {W w1 : World} {v : Value} {tmp : Obj} (hgrow : (W.alloc tmp).grownBy w1 v.ownBlock) {a : Addr} {u : Value} (h : W.cell? a = some u) (hne : some a.block ≠ v.ownBlock) : w1.cell? a = some u := by
  refine hgrow.cell ?_ hne
  rw [← h]
  refine World.cell?_of_block (Below.heap_alloc W tmp a.block ?_)
  by_cases hb : a.block < W.heap.size
  · exact hb
  · exfalso
    rw [World.cell?] at h
    rw [Array.getElem?_eq_none (by omega)] at h
    simp at h
theorem below_drewN {B : Nat} {a w : World} (h : Below B a w) (n : Nat) : Below B a (w.drewN n) := h.trans ⟨rfl, rfl, rfl, Nat.le_refl _, fun _ _ => rfl⟩
/-- A slice that owns is written out. -/
theorem shape {v : Value} {n : Nat} {xs : List Value} (h : w.ownsRow base e size v n xs) : ∃ ad cap, v = .slice ad n cap ∧ (∀ b, ad = some b → b = ⟨b.block, 0, none⟩) := by
  rcases h.2 with ⟨rfl, rfl⟩ | ⟨g, cap, cur, rfl, _⟩
  · exact ⟨none, 0, rfl, fun b hb => by cases hb⟩
  · exact ⟨_, cap, rfl, fun b hb => by cases hb; rfl⟩
end Go.Proofs.Ytpenopeecfgjjaa.Own
/-! RowA -/
namespace Go.Proofs.Ytpenopeecfgjjaa.Rw
open Go.RowKit Go.Sort
set_option linter.unusedVariables false
section
variable {α : Type} (enc : α → List Value) (k : Nat)
/-- One that lies there. -/
def At (w : World) (b o : Nat) (x : α) : Prop := ∀ j u, (enc x)[j]? = some u → w.cell? ⟨b, o + j, none⟩ = some u
/-- A slice reads as a list. -/
def Rd [Inhabited α] (w : World) (ad : Option Addr) (l : List α) : Prop := l = [] ∨ ∃ b off, ad = some ⟨b, off, none⟩ ∧ b < w.heap.size ∧ ∀ i, i < l.length → At enc w b (off + i * k) (l.getD i default)
/-- A slice of the call's own. -/
def OwnS (e : TypeId) (w : World) (base : Nat) (v : Value) (l : List α) : Prop := w.ownsRow base e k v l.length (l.flatMap enc)
/-- What a call leaves that hands back such a slice. -/
def Post (e : TypeId) (l : List α) (w : World) (x : Ending) (w' : World) : Prop :=
  ∃ ad cap, x = .returned (.slice ad l.length cap) ∧ OwnS enc k e w' w.heap.size (.slice ad l.length cap) l ∧ Below w.heap.size w w'
variable {enc k} {e : TypeId}
theorem At.below {w w' : World} {n b o : Nat} {x : α} (h : At enc w b o x) (hB : Below n w w') (hb : b < n) : At enc w' b o x :=
  fun j u hu => (hB.cell (p := ⟨b, _, none⟩) hb).trans (h j u hu)
theorem Rd.below [Inhabited α] {w w' : World} {ad : Option Addr} {l : List α} (h : Rd enc k w ad l) (hB : Below w.heap.size w w') : Rd enc k w' ad l := by
  rcases h with rfl | ⟨b, off, e, hb, hc⟩
  · exact .inl rfl
  · exact .inr ⟨b, off, e, Nat.lt_of_lt_of_le hb hB.size, fun i hi => (hc i hi).below hB hb⟩
theorem Rd.take [Inhabited α] {w : World} {ad : Option Addr} {l : List α} (h : Rd enc k w ad l) (m : Nat) : Rd enc k w ad (l.take m) := by
  rcases h with rfl | ⟨b, off, e, hb, hc⟩
  · exact .inl (by simp)
  · refine .inr ⟨b, off, e, hb, fun i hi => ?_⟩
    rw [List.length_take] at hi
    have := hc i (by omega)
    simpa [List.getD, show i < m from by omega] using this
theorem Rd.at_ [Inhabited α] {w : World} {ad : Option Addr} {l : List α} (h : Rd enc k w ad l) {i : Nat} (hi : i < l.length) : ∃ b off, ad = some ⟨b, off, none⟩ ∧ b < w.heap.size ∧ At enc w b (off + i * k) (l.getD i default) := by
  rcases h with rfl | ⟨b, off, e, hb, hc⟩
  · simp at hi
  · exact ⟨b, off, e, hb, hc i hi⟩
theorem Rd.kept [Inhabited α] {w w' : World} {ad : Option Addr} {l : List α} {row : Option Nat} (h : Rd enc k w ad l) (hg : w.grownBy w' row) (hne : ∀ b off, ad = some ⟨b, off, none⟩ → some b ≠ row) : Rd enc k w' ad l := by
  rcases h with h | ⟨b, off, e, hb, hc⟩
  · exact .inl h
  · exact .inr ⟨b, off, e, Nat.lt_of_lt_of_le hb hg.size, fun i hi j u hu => hg.cell (hc i hi j u hu) (hne _ _ e)⟩
theorem flat_len (hk : ∀ x, (enc x).length = k) (l : List α) : (l.flatMap enc).length = l.length * k := by
  induction l with
  | nil => simp
  | cons a l ih => rw [List.flatMap_cons, List.length_append, ih, hk, List.length_cons, Nat.add_mul]; omega
theorem flat_at [Inhabited α] (hk : ∀ x, (enc x).length = k) (l : List α) (i j : Nat) (hi : i < l.length) (hj : j < k) : (l.flatMap enc)[i * k + j]? = (enc (l.getD i default))[j]? := by
  induction l generalizing i with
  | nil => simp at hi
  | cons a l ih =>
    rw [List.flatMap_cons]
    cases i with
    | zero => rw [Nat.zero_mul, Nat.zero_add, List.getElem?_append_left (by rw [hk]; exact hj)]; simp
    | succ i =>
      rw [List.getElem?_append_right (by rw [hk, Nat.add_mul]; omega), hk, show (i + 1) * k + j - k = i * k + j by rw [Nat.add_mul]; omega, ih i (by simpa using hi)]
      simp
theorem OwnS.rd [Inhabited α] (hk : ∀ x, (enc x).length = k) {w : World} {base n cap : Nat} {ad : Option Addr} {l : List α} (h : OwnS enc k e w base (.slice ad n cap) l) : Rd enc k w ad l ∧ n = l.length := by
  have h' := h
  rcases h'.2 with ⟨hv, hz⟩ | ⟨g, cap', cur, hv, _, hg, _⟩
  · cases hv
    exact ⟨.inl (List.eq_nil_of_length_eq_zero hz), hz.symm⟩
  · simp only [Value.slice.injEq] at hv
    obtain ⟨rfl, rfl, rfl⟩ := hv
    refine ⟨.inr ⟨g, 0, rfl, (Array.getElem?_eq_some_iff.1 hg).1, fun i hi j u hu => ?_⟩, rfl⟩
    have hj : j < k := by rw [← hk (l.getD i default)]; exact (List.getElem?_eq_some_iff.1 hu).1
    have hlt : i * k + j < l.length * k := by
      calc i * k + j < i * k + k := by omega
        _ = (i + 1) * k := by rw [Nat.add_mul]; omega
        _ ≤ l.length * k := Nat.mul_le_mul_right k hi
    rw [Nat.zero_add, World.ownsRow.cellAt h (i * k + j) hlt, flat_at hk l i j hi hj, hu]
theorem OwnS.pos {w : World} {base n cap : Nat} {ad : Option Addr} {l : List α} (h : OwnS enc k e w base (.slice ad n cap) l) : l.length ≤ cap ∧ cap ≤ maxLen ∧ (0 < cap → ∃ g, ad = some ⟨g, 0, none⟩ ∧ base ≤ g ∧ g < w.heap.size) ∧ (ad = none → cap = 0) := by
  have h' := h
  rcases h'.2 with ⟨hv, hz⟩ | ⟨g, cap', cur, hv, hb, hg, hn, hm, _⟩
  · cases hv
    exact ⟨by omega, by unfold maxLen; omega, fun h => absurd h (by omega), fun _ => rfl⟩
  · simp only [Value.slice.injEq] at hv
    obtain ⟨rfl, rfl, rfl⟩ := hv
    exact ⟨hn, hm, fun _ => ⟨g, rfl, hb, (Array.getElem?_eq_some_iff.1 hg).1⟩, fun h => by cases h⟩
theorem OwnS.alloc {w : World} {base : Nat} {v : Value} {l : List α} (h : OwnS enc k e w base v l) (o : Obj) : OwnS enc k e (w.alloc o) base v l := World.ownsRow.alloc h o
theorem OwnS.kept {w w' : World} {base : Nat} {v : Value} {l : List α} {row : Option Nat} (h : OwnS enc k e w base v l) (hg : w.grownBy w' row) (hne : v.ownBlock = none ∨ v.ownBlock ≠ row) : OwnS enc k e w' base v l := World.ownsRow.kept h hg hne
theorem OwnS.mono {w : World} {base b' : Nat} {v : Value} {l : List α} (h : OwnS enc k e w base v l) (hb : b' ≤ base) : OwnS enc k e w b' v l := Own.mono h hb
/-- It is kept by whatever leaves alone what lay there. -/
theorem OwnS.below {w w' : World} {base : Nat} {v : Value} {l : List α} (h : OwnS enc k e w base v l) (hB : Below w.heap.size w w') : OwnS enc k e w' base v l :=
  World.ownsRow.kept h (row := Option.none) ⟨hB.os, hB.tape, hB.output, hB.size, fun j hj _ => hB.block j hj⟩ (by cases hv : v.ownBlock <;> simp)
theorem OwnS.snoc (hk : ∀ x, (enc x).length = k) {w : World} {base : Nat} {v : Value} {l : List α} {x : α} (h : w.ownsRow base e k v (l.length + 1) (l.flatMap enc ++ enc x)) : OwnS enc k e w base v (l ++ [x]) := by
  unfold OwnS
  rw [List.length_append, List.flatMap_append, List.flatMap_singleton]
  exact h
theorem OwnS.nil (w : World) (base : Nat) : OwnS enc k e w base (.slice none 0 0) [] := World.ownsRow_nil _ _ _ _
theorem OwnS.lit (w : World) (l : List α) (hk : ∀ x, (enc x).length = k) (hm : l.length ≤ maxLen) : OwnS enc k e (w.alloc (.cells (l.flatMap enc).toArray e)) w.heap.size (.slice (some ⟨w.heap.size, 0, none⟩) l.length l.length) l := by
  have := World.ownsRow_lit (e := e) (size := k) w (l.flatMap enc).toArray l.length (Nat.le_refl _) hm (by rw [List.size_toArray, flat_len hk])
  rwa [List.toList_toArray] at this
/-- A value that is boxed. -/
theorem At.box (w : World) (x : α) (vs : Array Value) (hv : vs.toList = enc x) : At enc (w.alloc (.cells vs e)) w.heap.size 0 x := fun j u hu => by
  have h := (MapKept.heap_alloc w (.cells vs e)).1
  rw [Nat.zero_add]
  simp only [World.cell?, h]
  rw [← hv] at hu
  simpa using hu
end
end Go.Proofs.Ytpenopeecfgjjaa.Rw
