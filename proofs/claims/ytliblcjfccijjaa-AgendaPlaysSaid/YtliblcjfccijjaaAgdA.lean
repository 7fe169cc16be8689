/- How an agenda lies in memory (layer 8), for every type of things of one cell. -/
import Derived.Test.YtliblcjfccijjaaAgdM
import Derived.Test.YtliblcjfccijjaaRowC
namespace Go.Proofs.Ytliblcjfccijjaa.Agd
open Go.RowKit Go.Proofs.Ytliblcjfccijjaa.Rw
set_option linter.unusedVariables false
set_option linter.unusedSimpArgs false
def encT (t : Th) : List Value := [.int .i64 t.due, .int .u64 t.no, .int .i64 t.x]
theorem encT_len (t : Th) : (encT t).length = 3 := rfl
/-- One that lies in a row's cells. -/
def Lies (cur : Array Value) (i : Nat) (t : Th) : Prop := cur[i * 3]? = some (.int .i64 t.due) ∧ cur[i * 3 + 1]? = some (.int .u64 t.no) ∧ cur[i * 3 + 2]? = some (.int .i64 t.x)
def setT (cur : Array Value) (i : Nat) (t : Th) : Array Value := ((cur.setIfInBounds (i * 3) (.int .i64 t.due)).setIfInBounds (i * 3 + 1) (.int .u64 t.no)).setIfInBounds (i * 3 + 2) (.int .i64 t.x)
theorem setT_size (cur : Array Value) (i : Nat) (t : Th) : (setT cur i t).size = cur.size := by simp [setT]
theorem setT_same {cur : Array Value} {i : Nat} (t : Th) (h : i * 3 + 2 < cur.size) : Lies (setT cur i t) i t := by
  unfold Lies setT
  refine ⟨?_, ?_, ?_⟩ <;> simp [Array.getElem?_setIfInBounds] <;> omega
theorem setT_other {cur : Array Value} {i j : Nat} {t u : Th} (h : Lies cur j u) (hij : i ≠ j) : Lies (setT cur i t) j u := by
  unfold Lies setT at *
  obtain ⟨h1, h2, h3⟩ := h
  refine ⟨?_, ?_, ?_⟩
  all_goals simp only [Array.getElem?_setIfInBounds]
  all_goals repeat rw [if_neg (by omega)]
  all_goals assumption
/-- Rows of things as cells and as a list. -/
def LiesAll (cur : Array Value) (l : List Th) : Prop := ∀ i, i < l.length → Lies cur i (gt l i)
theorem liesAll_of {cur : Array Value} {l : List Th} (h : cur.toList.take (l.length * 3) = l.flatMap encT) : LiesAll cur l := by
  intro i hi
  have hc : ∀ j, j < 3 → cur[i * 3 + j]? = (encT (gt l i))[j]? := fun j hj => by
    rw [← flat_at encT_len l i j hi hj, ← h, List.getElem?_take_of_lt (by omega)]
    simp
  exact ⟨hc 0 (by omega), hc 1 (by omega), hc 2 (by omega)⟩
theorem of_liesAll {cur : Array Value} {l : List Th} (h : LiesAll cur l) (hs : l.length * 3 ≤ cur.size) : cur.toList.take (l.length * 3) = l.flatMap encT := by
  apply List.ext_getElem?
  intro t
  by_cases ht : t < l.length * 3
  · rw [List.getElem?_take_of_lt ht, Array.getElem?_toList]
    obtain ⟨q, r, rfl, hm⟩ : ∃ q r, t = q * 3 + r ∧ r < 3 := ⟨t / 3, t % 3, by omega, by omega⟩
    have hd : q < l.length := by omega
    rw [flat_at encT_len l _ _ hd hm]
    obtain ⟨h1, h2, h3⟩ := h _ hd
    have hk : r = 0 ∨ r = 1 ∨ r = 2 := by omega
    rcases hk with rfl | rfl | rfl
    · exact h1
    · exact h2
    · exact h3
  · rw [List.getElem?_take_eq_none (by omega), List.getElem?_eq_none (by rw [flat_len encT_len]; omega)]
theorem LiesAll.swp {cur : Array Value} {l : List Th} (h : LiesAll cur l) {i j : Nat} (hi : i < l.length) (hj : j < l.length) (hs : l.length * 3 ≤ cur.size) : LiesAll (setT (setT cur i (gt l j)) j (gt l i)) (swp l i j) := by
  intro k hk
  rw [swp_len] at hk
  rw [gt_swp hi hj]
  by_cases e1 : k = j
  · subst e1; rw [if_pos rfl]; exact setT_same _ (by rw [setT_size]; omega)
  · rw [if_neg e1]
    refine setT_other ?_ (fun e => e1 e.symm)
    by_cases e2 : k = i
    · subst e2; rw [if_pos rfl]; exact setT_same _ (by omega)
    · rw [if_neg e2]; exact setT_other (h k hk) (fun e => e2 e.symm)
theorem LiesAll.swp' {cur : Array Value} {l : List Th} (h : LiesAll cur l) {i j : Nat} (hi : i < l.length) (hj : j < l.length) (hs : l.length * 3 ≤ cur.size) : LiesAll (setT (setT cur j (gt l i)) i (gt l j)) (Agd.swp l i j) := by
  intro k hk
  rw [swp_len] at hk
  rw [gt_swp hi hj]
  by_cases e2 : k = i
  · subst e2
    rw [if_pos rfl]
    have : (if k = j then gt l k else gt l j) = gt l j := by split <;> simp_all
    rw [this]
    exact setT_same _ (by rw [setT_size]; omega)
  · rw [if_neg e2]
    refine setT_other ?_ (fun e => e2 e.symm)
    by_cases e1 : k = j
    · subst e1; rw [if_pos rfl]; exact setT_same _ (by omega)
    · rw [if_neg e1]; exact setT_other (h k hk) (fun e => e1 e.symm)
section
variable (tA tT : TypeId)
/-- An agenda that has a row, where it lies: g what it is, b the row. -/
structure Row (w : World) (g b : Nat) (most : Int) (add cap : Nat) (l : List Th) : Prop where
  box : Blk w g tA #[.int .i64 most, .int .u64 add, .slice (some ⟨b, 0, none⟩) l.length cap]
  row : ∃ cur, Blk w b tT cur ∧ l.length ≤ cap ∧ cap ≤ maxLen ∧ cur.size = cap * 3 ∧ LiesAll cur l
  ne : g ≠ b
/-- An agenda: whether or not it has a row. -/
def AgH (w : World) (g : Nat) (most : Int) (add : Nat) (l : List Th) (F : Nat → Prop) : Prop :=
  F g ∧ ((l = [] ∧ Blk w g tA #[.int .i64 most, .int .u64 add, .slice none 0 0]) ∨ ∃ b cap, F b ∧ Row tA tT w g b most add cap l)
/-- An agenda: what is to come, as it was added. -/
def Ag (w : World) (g : Nat) (most : Int) (add : Nat) (l : List Th) (F : Nat → Prop) : Prop :=
  ∃ H, AgH tA tT w g most add H F ∧ Heap H ∧ H.Perm l ∧ Nos l ∧ ∀ t ∈ l, t.no < add
variable {tA tT : TypeId} {w w' : World} {g b : Nat} {most : Int} {add cap : Nat} {l : List Th} {F : Nat → Prop}
theorem Row.kept (h : Row tA tT w g b most add cap l) (hg : w'.heap[g]? = w.heap[g]?) (hb : w'.heap[b]? = w.heap[b]?) : Row tA tT w' g b most add cap l := by
  obtain ⟨h1, ⟨cur, h2, h3⟩, h4⟩ := h
  exact ⟨hg.trans h1, ⟨cur, hb.trans h2, h3⟩, h4⟩
theorem Row.ltg (h : Row tA tT w g b most add cap l) : g < w.heap.size := h.box.lt
theorem Row.ltb (h : Row tA tT w g b most add cap l) : b < w.heap.size := by obtain ⟨cur, h2, -⟩ := h.row; exact h2.lt
theorem Row.below (h : Row tA tT w g b most add cap l) (hB : Below w.heap.size w w') : Row tA tT w' g b most add cap l := h.kept (hB.block g h.ltg) (hB.block b h.ltb)
theorem Row.len (h : Row tA tT w g b most add cap l) : l.length ≤ cap ∧ cap ≤ maxLen := by obtain ⟨cur, h2, h3, h4, -⟩ := h.row; exact ⟨h3, h4⟩
theorem Row.cells (h : Row tA tT w g b most add cap l) : w.cell? ⟨g, 0, none⟩ = some (.int .i64 most) ∧ w.cell? ⟨g, 1, none⟩ = some (.int .u64 add) ∧ w.cell? ⟨g, 2, none⟩ = some (.slice (some ⟨b, 0, none⟩) l.length cap) := ⟨h.box.cell 0, h.box.cell 1, h.box.cell 2⟩
theorem Row.at_ (h : Row tA tT w g b most add cap l) {i : Nat} (hi : i < l.length) : w.cell? ⟨b, i * 3, none⟩ = some (.int .i64 (gt l i).due) ∧ w.cell? ⟨b, i * 3 + 1, none⟩ = some (.int .u64 (gt l i).no) ∧ w.cell? ⟨b, i * 3 + 2, none⟩ = some (.int .i64 (gt l i).x) := by
  obtain ⟨cur, h2, -, -, -, h5⟩ := h.row
  rw [h2.cell, h2.cell, h2.cell]
  exact h5 i hi
theorem Row.free (h : Row tA tT w g b most add cap l) (k : Nat) : w.frozen? ⟨b, k, none⟩ = false := by
  obtain ⟨cur, h2, -⟩ := h.row
  exact h2.free k
theorem Row.freeg (h : Row tA tT w g b most add cap l) (k : Nat) : w.frozen? ⟨g, k, none⟩ = false := h.box.free k
/-- A world in which one thing is written. -/
def putT (w : World) (b i : Nat) (t : Th) : World := ((w.setCell ⟨b, i * 3, none⟩ (.int .i64 t.due)).setCell ⟨b, i * 3 + 1, none⟩ (.int .u64 t.no)).setCell ⟨b, i * 3 + 2, none⟩ (.int .i64 t.x)
theorem Blk.putT {cs : Array Value} {t : TypeId} (h : Blk w b t cs) (i : Nat) (x : Th) : Blk (putT w b i x) b t (setT cs i x) := ((h.put _ _).put _ _).put _ _
theorem putT_other (w : World) {b k : Nat} (i : Nat) (x : Th) (h : k ≠ b) : (putT w b i x).heap[k]? = w.heap[k]? := by
  unfold putT
  rw [Below.heap_setCell _ _ _ _ (by exact h), Below.heap_setCell _ _ _ _ (by exact h), Below.heap_setCell _ _ _ _ (by exact h)]
theorem putT_stay (w : World) (b i : Nat) (x : Th) : Stay (fun k => k = b) w (putT w b i x) := by
  have h1 : ∀ (W : World) (k : Nat) (v : Value), Stay (fun k => k = b) W (W.setCell ⟨b, k, none⟩ v) := fun W k v => Stay.of_grown (setCell_grown W b k v) (fun j e => by simpa using e.symm)
  exact ((h1 _ _ _).snoc (h1 _ _ _) (fun k _ e => e)).snoc (h1 _ _ _) (fun k _ e => e)
theorem Row.swp (h : Row tA tT w g b most add cap l) {i j : Nat} (hi : i < l.length) (hj : j < l.length) : Row tA tT (putT (putT w b i (gt l j)) b j (gt l i)) g b most add cap (swp l i j) := by
  obtain ⟨h1, ⟨cur, h2, h3, h4, h5, h6⟩, hn⟩ := h
  refine ⟨?_, ⟨_, Blk.putT (Blk.putT h2 _ _) _ _, by rw [swp_len]; exact h3, h4, by rw [setT_size, setT_size, h5], h6.swp hi hj (by omega)⟩, hn⟩
  rw [swp_len]
  exact (putT_other _ _ _ hn).trans ((putT_other _ _ _ hn).trans h1)
theorem Row.swp' (h : Row tA tT w g b most add cap l) {i j : Nat} (hi : i < l.length) (hj : j < l.length) : Row tA tT (putT (putT w b j (gt l i)) b i (gt l j)) g b most add cap (Agd.swp l i j) := by
  obtain ⟨h1, ⟨cur, h2, h3, h4, h5, h6⟩, hn⟩ := h
  refine ⟨?_, ⟨_, Blk.putT (Blk.putT h2 _ _) _ _, by rw [swp_len]; exact h3, h4, by rw [setT_size, setT_size, h5], h6.swp' hi hj (by omega)⟩, hn⟩
  rw [swp_len]
  exact (putT_other _ _ _ hn).trans ((putT_other _ _ _ hn).trans h1)
/-- The last one is wiped and cut off. -/
theorem Row.cut {m : Nat} (h : Row tA tT w g b most add cap l) (hl : l.length = m + 1) (x : Th) :
    Row tA tT ((putT w b m x).setCell ⟨g, 2, none⟩ (.slice (some ⟨b, 0, none⟩) m cap)) g b most add cap (l.take m) ∧ Stay (fun k => k = b ∨ k = g) w ((putT w b m x).setCell ⟨g, 2, none⟩ (.slice (some ⟨b, 0, none⟩) m cap)) := by
  obtain ⟨h1, ⟨cur, h2, h3, h4, h5, h6⟩, hn⟩ := h
  have hlt : (l.take m).length = m := by rw [List.length_take]; omega
  refine ⟨⟨?_, ⟨_, (Blk.putT h2 m x).far (p := ⟨g, 2, none⟩) (fun e => hn e.symm) _, by omega, h4, by rw [setT_size, h5], fun i hi => ?_⟩, hn⟩, ?_⟩
  · rw [hlt]
    exact Blk.put (cs := #[.int .i64 most, .int .u64 add, .slice (some ⟨b, 0, none⟩) l.length cap]) ((putT_other _ _ _ hn).trans h1) 2 _
  · rw [hlt] at hi
    rw [gt_take hi]
    exact setT_other (h6 i (by omega)) (by omega)
  · exact ((putT_stay w b m x).mono (fun k e => .inl e)).snoc (Stay.of_grown (F := fun k => k = b ∨ k = g) (setCell_grown _ g 2 _) (fun j e => .inr (by simpa using e.symm))) (fun k _ e => e)
/-- The row as the library's own slices have it, and back. -/
theorem Row.own (h : Row tA tT w g b most add cap l) : OwnS encT 3 tT w 0 (.slice (some ⟨b, 0, none⟩) l.length cap) l := by
  obtain ⟨h1, ⟨cur, h2, h3, h4, h5, h6⟩, hn⟩ := h
  exact of_row h2 (Nat.zero_le _) h3 h4 h5 (of_liesAll h6 (by omega))
theorem Row.of {v : Value} (h : w.ownsRow 0 tT 3 v l.length (l.flatMap encT)) (hb : Blk w g tA #[.int .i64 most, .int .u64 add, v]) (hl : 0 < l.length) (hne : v.ownBlock ≠ some g) : ∃ b cap, v.ownBlock = some b ∧ Row tA tT w g b most add cap l := by
  rcases h.2 with ⟨-, h0⟩ | ⟨b, cap, cur, rfl, -, hg, hn, hm, hs, ht⟩
  · omega
  · exact ⟨b, cap, rfl, hb, ⟨cur, hg, hn, hm, hs, liesAll_of ht⟩, fun e => hne (by rw [e]; rfl)⟩
theorem AgH.below (h : AgH tA tT w g most add l F) (hB : Below w.heap.size w w') : AgH tA tT w' g most add l F := by
  obtain ⟨h1, h2 | ⟨b, cap, hb, h2⟩⟩ := h
  · exact ⟨h1, .inl ⟨h2.1, h2.2.below hB⟩⟩
  · exact ⟨h1, .inr ⟨b, cap, hb, h2.below hB⟩⟩
theorem Ag.below (h : Ag tA tT w g most add l F) (hB : Below w.heap.size w w') : Ag tA tT w' g most add l F := by
  obtain ⟨H, h1, h2⟩ := h
  exact ⟨H, h1.below hB, h2⟩
/-- The agenda's blocks are as they were. -/
theorem Ag.kept (h : Ag tA tT w g most add l F) (hk : ∀ k, F k → k < w.heap.size → w'.heap[k]? = w.heap[k]?) : Ag tA tT w' g most add l F := by
  obtain ⟨H, ⟨h1, h2 | ⟨b, cap, hb, h2⟩⟩, h3⟩ := h
  · exact ⟨H, ⟨h1, .inl ⟨h2.1, (hk g h1 h2.2.lt).trans h2.2⟩⟩, h3⟩
  · exact ⟨H, ⟨h1, .inr ⟨b, cap, hb, h2.kept (hk g h1 h2.ltg) (hk b hb h2.ltb)⟩⟩, h3⟩
theorem Ag.mono {F' : Nat → Prop} (h : Ag tA tT w g most add l F) (hF : ∀ k, F k → F' k) : Ag tA tT w g most add l F' := by
  obtain ⟨H, ⟨h1, h2 | ⟨b, cap, hb, h2⟩⟩, h3⟩ := h
  · exact ⟨H, ⟨hF _ h1, .inl h2⟩, h3⟩
  · exact ⟨H, ⟨hF _ h1, .inr ⟨b, cap, hF _ hb, h2⟩⟩, h3⟩
theorem Ag.cells (h : Ag tA tT w g most add l F) : ∃ ad cap, w.cell? ⟨g, 0, none⟩ = some (.int .i64 most) ∧ w.cell? ⟨g, 2, none⟩ = some (.slice ad l.length cap) := by
  obtain ⟨H, ⟨h1, h2 | ⟨b, cap, hb, h2⟩⟩, -, hp, -⟩ := h
  · obtain ⟨rfl, h2⟩ := h2
    obtain rfl : l = [] := by simpa using hp
    exact ⟨none, 0, h2.cell 0, h2.cell 2⟩
  · rw [← hp.length_eq]
    exact ⟨_, _, h2.cells.1, h2.cells.2.2⟩
theorem Ag.in_ (h : Ag tA tT w g most add l F) : F g ∧ g < w.heap.size := by
  obtain ⟨H, ⟨h1, h2 | ⟨b, cap, hb, h2⟩⟩, -⟩ := h
  · exact ⟨h1, h2.2.lt⟩
  · exact ⟨h1, h2.ltg⟩
/-- An agenda that has something has a row. -/
theorem Ag.row (h : Ag tA tT w g most add l F) (hne : l ≠ []) : ∃ b cap H, Row tA tT w g b most add cap H ∧ F b ∧ H.length = l.length ∧ gt H 0 = hd l ∧ Heap H ∧ H.Perm l ∧ F g ∧ Nos l ∧ (∀ t ∈ l, t.no < add) := by
  obtain ⟨H, ⟨h1, h2 | ⟨b, cap, hb, h2⟩⟩, hh, hp, hs, hn⟩ := h
  · obtain ⟨rfl, -⟩ := h2
    exact absurd (by simpa using hp) hne
  · exact ⟨b, cap, H, h2, hb, hp.length_eq, root_eq hh hp hs hne, hh, hp, h1, hs, hn⟩
end
/-- Lists of whole numbers. -/
def encI (x : Int) : List Value := [.int .i64 x]
theorem encI_len (x : Int) : (encI x).length = 1 := rfl
theorem encI_one (x : Int) : ∀ u ∈ encI x, u.oneCell' = true := by simp [encI, Value.oneCell']
def _root_.Go.Value.lenOf : Value → Nat
  | .slice _ n _ => n
  | _ => 0
/-- A slice of one's own stays where nothing of it is touched. -/
theorem own_stay {e : TypeId} {k n base : Nat} {v : Value} {xs : List Value} {F : Nat → Prop} {w w' : World} (h : w.ownsRow base e k v n xs) (hs : Stay F w w') (hn : ∀ j, v.ownBlock = some j → ¬ F j) : w'.ownsRow base e k v n xs := by
  rcases h.2 with h0 | ⟨g, cap, cur, rfl, hb, hg, h3⟩
  · exact ⟨h.1, .inl h0⟩
  · exact ⟨h.1, .inr ⟨g, cap, cur, rfl, hb, (hs.block g (Array.getElem?_eq_some_iff.1 hg).1 (hn g rfl)).trans hg, h3⟩⟩
theorem stay_below {F : Nat → Prop} {w w1 w' : World} (h : Stay F w w1) (hB : Below w.heap.size w1 w') : Stay F w w' :=
  ⟨hB.os.trans h.os, hB.tape.trans h.tape, hB.output.trans h.output, Nat.le_trans h.size hB.size, fun k hk hn => (hB.block k hk).trans (h.block k hk hn)⟩
theorem own_ge {w : World} {base e size n : Nat} {v : Value} {xs : List Value} (h : w.ownsRow base e size v n xs) {k : Nat} (hk : v.ownBlock = some k) : base ≤ k := by
  rcases h.2 with ⟨rfl, _⟩ | ⟨g, c, cur, rfl, hb, -⟩
  · simp [Value.ownBlock] at hk
  · simp [Value.ownBlock] at hk; omega
end Go.Proofs.Ytliblcjfccijjaa.Agd
