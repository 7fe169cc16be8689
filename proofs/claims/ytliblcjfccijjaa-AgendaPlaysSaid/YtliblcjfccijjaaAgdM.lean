/- A heap of things by (due, number), and the list of them as they were added: plain mathematics. -/
import Derived.Test.YtliblcjfccijjaaOwnA
namespace Go.Proofs.Ytliblcjfccijjaa.Agd
set_option linter.unusedVariables false
set_option linter.unusedSimpArgs false
/-- A thing: its due, its number, what it is. -/
structure Th where
  due : Int
  no : Nat
  x : Int
deriving Inhabited, DecidableEq
/-- Whether one comes out ahead of another. -/
def bef (a b : Th) : Bool := if a.due = b.due then decide (a.no < b.no) else decide (a.due < b.due)
theorem bef_iff {a b : Th} : bef a b = true ↔ a.due < b.due ∨ (a.due = b.due ∧ a.no < b.no) := by
  unfold bef; split <;> simp <;> omega
theorem bef_not {a b : Th} : bef a b = false ↔ b.due < a.due ∨ (a.due = b.due ∧ b.no ≤ a.no) := by
  unfold bef; split <;> simp <;> omega
theorem bef_irrefl (a : Th) : bef a a = false := by rw [bef_not]; omega
theorem bef_trans {a b c : Th} (h : bef a b = false) (h' : bef b c = false) : bef a c = false := by
  rw [bef_not] at *; omega
theorem bef_mix {a b c : Th} (h : bef a b = true) (h' : bef c b = false) : bef c a = false := by
  rw [bef_not] at *; rw [bef_iff] at h; omega
theorem bef_asym {a b : Th} (h : bef a b = true) : bef b a = false := by
  rw [bef_not]; rw [bef_iff] at h; omega
/-- Places of a list. -/
abbrev gt (l : List Th) (i : Nat) : Th := l.getD i default
theorem gt_eq {l : List Th} {i : Nat} (h : i < l.length) : gt l i = l[i] := by simp [gt, List.getD, h]
theorem gt_some {l : List Th} {i : Nat} (h : i < l.length) : l[i]? = some (gt l i) := by rw [gt_eq h]; simp [h]
theorem gt_mem {l : List Th} {i : Nat} (h : i < l.length) : gt l i ∈ l := by rw [gt_eq h]; exact List.getElem_mem _
theorem gt_append_left {l r : List Th} {i : Nat} (h : i < l.length) : gt (l ++ r) i = gt l i := by simp [gt, List.getD, List.getElem?_append_left h]
theorem gt_append_len (l : List Th) (x : Th) : gt (l ++ [x]) l.length = x := by simp [gt, List.getD]
theorem gt_set {l : List Th} {i j : Nat} {x : Th} (h : i < l.length) : gt (l.set i x) j = if i = j then x else gt l j := by
  by_cases e : i = j
  · subst e; simp [gt, List.getD, h]
  · simp [gt, List.getD, List.getElem?_set, e]
theorem gt_take {l : List Th} {i m : Nat} (h : i < m) : gt (l.take m) i = gt l i := by simp [gt, List.getD, List.getElem?_take, h]
/-- Two change places. -/
def swp (l : List Th) (i j : Nat) : List Th := (l.set i (gt l j)).set j (gt l i)
theorem swp_len (l : List Th) (i j : Nat) : (swp l i j).length = l.length := by simp [swp]
theorem gt_swp {l : List Th} {i j k : Nat} (hi : i < l.length) (hj : j < l.length) : gt (swp l i j) k = if k = j then gt l i else if k = i then gt l j else gt l k := by
  unfold swp
  rw [gt_set (by simpa using hj)]
  by_cases e : k = j
  · subst e; simp
  · rw [if_neg (fun h => e h.symm), if_neg e, gt_set hi]
    by_cases e2 : i = k
    · simp [e2]
    · rw [if_neg e2, if_neg (fun h => e2 h.symm)]
theorem swp_perm (l : List Th) {i j : Nat} (hi : i < l.length) (hj : j < l.length) : (swp l i j).Perm l := by
  have h1 : (swp l i j) = (l.set i l[j]).set j l[i] := by unfold swp; rw [gt_eq hi, gt_eq hj]
  rw [h1]
  exact List.set_set_perm hi hj
/-- A heap. -/
def Heap (l : List Th) : Prop := ∀ i, 0 < i → i < l.length → bef (gt l i) (gt l ((i - 1) / 2)) = false
/-- A heap but for one that may have to rise. -/
def Rises (l : List Th) (p : Nat) : Prop :=
  (∀ i, 0 < i → i < l.length → i ≠ p → bef (gt l i) (gt l ((i - 1) / 2)) = false) ∧
  (∀ i, 0 < i → i < l.length → (i - 1) / 2 = p → 0 < p → bef (gt l i) (gt l ((p - 1) / 2)) = false)
/-- A heap but for one that may have to sink. -/
def Sinks (l : List Th) (p : Nat) : Prop :=
  (∀ i, 0 < i → i < l.length → (i - 1) / 2 ≠ p → bef (gt l i) (gt l ((i - 1) / 2)) = false) ∧
  (∀ i, 0 < i → i < l.length → (i - 1) / 2 = p → 0 < p → bef (gt l i) (gt l ((p - 1) / 2)) = false)
theorem Rises.stop0 {l : List Th} (h : Rises l 0) : Heap l := fun i h0 hi => h.1 i h0 hi (by omega)
theorem Rises.stop {l : List Th} {p : Nat} (h : Rises l p) (hb : bef (gt l p) (gt l ((p - 1) / 2)) = false) : Heap l := fun i h0 hi => by
  by_cases e : i = p
  · subst e; exact hb
  · exact h.1 i h0 hi e
theorem Rises.up {l : List Th} {p : Nat} (h : Rises l p) (h0 : 0 < p) (hp : p < l.length) (hb : bef (gt l p) (gt l ((p - 1) / 2)) = true) : Rises (swp l p ((p - 1) / 2)) ((p - 1) / 2) := by
  have hq : (p - 1) / 2 < l.length := by omega
  refine ⟨fun i hi0 hi hne => ?_, fun i hi0 hi he hq0 => ?_⟩
  · rw [swp_len] at hi
    rw [gt_swp hp hq, gt_swp hp hq, if_neg hne]
    by_cases e1 : i = p
    · subst e1
      rw [if_pos rfl, if_pos rfl]
      exact bef_asym hb
    · rw [if_neg e1]
      by_cases e2 : (i - 1) / 2 = (p - 1) / 2
      · rw [if_pos e2]
        have h1 := h.1 i hi0 hi e1
        rw [e2] at h1
        exact bef_mix hb h1
      · rw [if_neg e2]
        by_cases e3 : (i - 1) / 2 = p
        · rw [if_pos e3]
          exact h.2 i hi0 hi e3 h0
        · rw [if_neg e3]
          exact h.1 i hi0 hi e1
  · rw [swp_len] at hi
    rw [gt_swp hp hq, gt_swp hp hq]
    have e0 : ¬ ((p - 1) / 2 - 1) / 2 = (p - 1) / 2 := by omega
    have e1 : ¬ ((p - 1) / 2 - 1) / 2 = p := by omega
    have e2 : ¬ i = (p - 1) / 2 := by omega
    rw [if_neg e2, if_neg e0, if_neg e1]
    have hup := h.1 ((p - 1) / 2) hq0 hq (by omega)
    by_cases e3 : i = p
    · rw [if_pos e3]; exact hup
    · rw [if_neg e3]
      have h1 := h.1 i hi0 hi e3
      rw [he] at h1
      exact bef_trans h1 hup
theorem Sinks.stop {l : List Th} {p : Nat} (h : Sinks l p) (hb : ∀ i, 0 < i → i < l.length → (i - 1) / 2 = p → bef (gt l i) (gt l p) = false) : Heap l := fun i h0 hi => by
  by_cases e : (i - 1) / 2 = p
  · rw [e]; exact hb i h0 hi e
  · exact h.1 i h0 hi e
theorem Sinks.down {l : List Th} {p q : Nat} (h : Sinks l p) (h0 : 0 < q) (hq : q < l.length) (hqp : (q - 1) / 2 = p) (hb : bef (gt l q) (gt l p) = true)
    (hs : ∀ i, 0 < i → i < l.length → (i - 1) / 2 = p → bef (gt l i) (gt l q) = false) : Sinks (swp l p q) q := by
  have hp : p < l.length := by omega
  refine ⟨fun i hi0 hi hne => ?_, fun i hi0 hi he hq0 => ?_⟩
  · rw [swp_len] at hi
    rw [gt_swp hp hq, gt_swp hp hq, if_neg hne]
    by_cases e1 : i = q
    · subst e1
      rw [if_pos rfl, if_pos hqp]
      exact bef_asym hb
    · rw [if_neg e1]
      by_cases e2 : i = p
      · subst e2
        rw [if_pos rfl, if_neg (by omega)]
        exact h.2 q h0 hq hqp hi0
      · rw [if_neg e2]
        by_cases e3 : (i - 1) / 2 = p
        · rw [if_pos e3]
          exact hs i hi0 hi e3
        · rw [if_neg e3]
          exact h.1 i hi0 hi e3
  · rw [swp_len] at hi
    rw [gt_swp hp hq, gt_swp hp hq, hqp]
    rw [if_neg (by omega), if_neg (by omega), if_neg (by omega), if_pos rfl]
    have := h.1 i hi0 hi (by omega)
    rwa [he] at this
/-- Which of the two below one comes out first; -1: there is none. -/
def nx (l : List Th) (i : Nat) : Int := if l.length ≤ 2 * i + 1 then -1 else if 2 * i + 2 < l.length ∧ bef (gt l (2 * i + 2)) (gt l (2 * i + 1)) = true then ((2 * i + 2 : Nat) : Int) else ((2 * i + 1 : Nat) : Int)
theorem nx_none {l : List Th} {i : Nat} (h : nx l i < 0) : ∀ j, 0 < j → j < l.length → (j - 1) / 2 = i → False := by
  intro j h0 hj he
  unfold nx at h
  split at h
  · omega
  · split at h <;> omega
theorem nx_neg {l : List Th} {i : Nat} (h : nx l i < 0) : nx l i = -1 := by
  unfold nx at h ⊢
  split at h
  · rename_i h1; rw [if_pos h1]
  · split at h <;> omega
theorem nx_some {l : List Th} {i : Nat} (h : 0 ≤ nx l i) : ∃ q : Nat, nx l i = (q : Int) ∧ 0 < q ∧ i < q ∧ q < l.length ∧ (q - 1) / 2 = i ∧ ∀ j, 0 < j → j < l.length → (j - 1) / 2 = i → bef (gt l j) (gt l q) = false := by
  unfold nx at h ⊢
  split at h
  · omega
  · rename_i h1
    split at h
    · rename_i h2
      rw [if_neg h1, if_pos h2]
      refine ⟨2 * i + 2, rfl, by omega, by omega, by omega, by omega, fun j h0 hj he => ?_⟩
      have : j = 2 * i + 1 ∨ j = 2 * i + 2 := by omega
      rcases this with rfl | rfl
      · exact bef_asym h2.2
      · exact bef_irrefl _
    · rename_i h2
      rw [if_neg h1, if_neg h2]
      refine ⟨2 * i + 1, rfl, by omega, by omega, by omega, by omega, fun j h0 hj he => ?_⟩
      have : j = 2 * i + 1 ∨ j = 2 * i + 2 := by omega
      rcases this with rfl | rfl
      · exact bef_irrefl _
      · cases hb : bef (gt l (2 * i + 2)) (gt l (2 * i + 1)) with
        | false => rfl
        | true => exact absurd ⟨hj, hb⟩ h2
/-- One more at the end. -/
theorem Heap.snoc {l : List Th} (h : Heap l) (x : Th) : Rises (l ++ [x]) l.length := by
  refine ⟨fun i h0 hi hne => ?_, fun i h0 hi he hp => ?_⟩
  · rw [List.length_append, List.length_singleton] at hi
    rw [gt_append_left (by omega), gt_append_left (by omega)]
    exact h i h0 (by omega)
  · rw [List.length_append, List.length_singleton] at hi
    omega
/-- The last one takes the first one's place. -/
theorem Heap.shed {l : List Th} (h : Heap l) (hn : 0 < l.length) : Sinks ((swp l 0 (l.length - 1)).take (l.length - 1)) 0 := by
  refine ⟨fun i h0 hi hne => ?_, fun i h0 hi he hp => by omega⟩
  rw [List.length_take, swp_len] at hi
  rw [gt_take (by omega), gt_take (by omega), gt_swp hn (by omega), gt_swp hn (by omega), if_neg (by omega), if_neg (by omega), if_neg (by omega), if_neg hne]
  exact h i h0 (by omega)
theorem shed_perm {l : List Th} (hn : 0 < l.length) : (gt l 0 :: (swp l 0 (l.length - 1)).take (l.length - 1)).Perm l := by
  have h1 := swp_perm l (i := 0) (j := l.length - 1) hn (by omega)
  have h2 : swp l 0 (l.length - 1) = (swp l 0 (l.length - 1)).take (l.length - 1) ++ [gt l 0] := by
    apply List.ext_getElem?
    intro k
    by_cases hk : k < l.length - 1
    · rw [List.getElem?_append_left (by rw [List.length_take, swp_len]; omega), List.getElem?_take_of_lt hk]
    · rw [List.getElem?_append_right (by rw [List.length_take, swp_len]; omega), List.length_take, swp_len]
      by_cases he : k = l.length - 1
      · subst he
        rw [show l.length - 1 - min (l.length - 1) l.length = 0 by omega, gt_some (by rw [swp_len]; omega), gt_swp hn (by omega), if_pos rfl]
        simp
      · rw [List.getElem?_eq_none (by rw [swp_len]; omega), List.getElem?_eq_none (by simp; omega)]
  have h3 : ((swp l 0 (l.length - 1)).take (l.length - 1) ++ [gt l 0]).Perm l := h2 ▸ h1
  exact (List.perm_append_comm (l₁ := [gt l 0])).trans h3
/-- The first place has what none is ahead of. -/
theorem Heap.root {l : List Th} (h : Heap l) : ∀ i, i < l.length → bef (gt l i) (gt l 0) = false := by
  intro i
  induction i using Nat.strongRecOn with
  | _ i ih =>
    intro hi
    by_cases h0 : i = 0
    · subst h0; exact bef_irrefl _
    · exact bef_trans (h i (by omega) hi) (ih ((i - 1) / 2) (by omega) (by omega))
/-- Where the first one stands, among the first m. -/
def fiN (l : List Th) : Nat → Nat
  | 0 => 0
  | m + 1 => if (gt l m).due < (gt l (fiN l m)).due then m else fiN l m
theorem fiN_lt (l : List Th) : ∀ m, 0 < m → fiN l m < m
  | 0, h => by omega
  | 1, h => by simp [fiN]
  | m + 2, h => by have := fiN_lt l (m + 1) (by omega); unfold fiN; split <;> omega
theorem fiN_least (l : List Th) : ∀ m i, i < m → (gt l (fiN l m)).due ≤ (gt l i).due ∧ (i < fiN l m → (gt l (fiN l m)).due < (gt l i).due)
  | 0, i, h => by omega
  | m + 1, i, h => by
    unfold fiN
    have hm := fiN_lt l m
    by_cases hi : i < m
    · have ih := fiN_least l m i hi
      split
      · constructor <;> omega
      · exact ih
    · obtain rfl : i = m := by omega
      split
      · constructor <;> omega
      · constructor
        · omega
        · intro h; by_cases h0 : i = 0
          · subst h0; simp [fiN] at h
          · have := hm (by omega); omega
def fi (l : List Th) : Nat := fiN l l.length
theorem erase_perm : ∀ (l : List Th) (i : Nat) (h : i < l.length), (l[i] :: l.eraseIdx i).Perm l
  | a :: l, 0, h => by simp
  | a :: l, i + 1, h => by
    have := erase_perm l i (by simpa using h)
    simp only [List.getElem_cons_succ, List.eraseIdx_cons_succ]
    exact (List.Perm.swap _ _ _).trans (this.cons a)
def hd (l : List Th) : Th := gt l (fi l)
def tk (l : List Th) : List Th := l.eraseIdx (fi l)
theorem fi_lt {l : List Th} (h : l ≠ []) : fi l < l.length := fiN_lt l _ (List.length_pos_iff.2 h)
theorem tk_len {l : List Th} (h : l ≠ []) : (tk l).length + 1 = l.length := by
  unfold tk; rw [List.length_eraseIdx_of_lt (fi_lt h)]; have := fi_lt h; omega
theorem tk_len_le (l : List Th) : (tk l).length ≤ l.length := by unfold tk; exact List.length_eraseIdx_le _ _
theorem tk_perm {l : List Th} (h : l ≠ []) : (hd l :: tk l).Perm l := by
  unfold hd tk; rw [gt_eq (fi_lt h)]
  exact erase_perm l _ (fi_lt h)
/-- The numbers rise. -/
def Nos (l : List Th) : Prop := l.Pairwise (fun a b => a.no < b.no)
theorem Nos.lt {l : List Th} (h : Nos l) {i j : Nat} (hij : i < j) (hj : j < l.length) : (gt l i).no < (gt l j).no := by
  rw [gt_eq hj, gt_eq (by omega)]
  exact List.pairwise_iff_getElem.1 h i j (by omega) hj hij
theorem Nos.tk {l : List Th} (h : Nos l) : Nos (tk l) := h.sublist (List.eraseIdx_sublist _ _)
theorem Nos.least {l : List Th} (h : Nos l) {i : Nat} (hi : i < l.length) : bef (gt l i) (hd l) = false := by
  have h1 := fiN_least l l.length i hi
  have h2 : fi l < l.length := fi_lt (by rintro rfl; simp at hi)
  rw [bef_not]
  unfold hd fi at *
  by_cases e : i < fiN l l.length
  · have := h1.2 e; omega
  · by_cases e2 : i = fiN l l.length
    · rw [e2]; omega
    · have := h.lt (show fiN l l.length < i by omega) hi
      omega
theorem Nos.inj {l : List Th} (h : Nos l) {a b : Th} (ha : a ∈ l) (hb : b ∈ l) (hn : a.no = b.no) : a = b := by
  obtain ⟨i, hi, rfl⟩ := List.getElem_of_mem ha
  obtain ⟨j, hj, rfl⟩ := List.getElem_of_mem hb
  rcases Nat.lt_trichotomy i j with e | e | e
  · have := h.lt e hj; rw [gt_eq hi, gt_eq hj] at this; omega
  · subst e; rfl
  · have := h.lt e hi; rw [gt_eq hi, gt_eq hj] at this; omega
/-- The heap's first is the list's. -/
theorem root_eq {H l : List Th} (hh : Heap H) (hp : H.Perm l) (hs : Nos l) (hne : l ≠ []) : gt H 0 = hd l := by
  have hl : H.length = l.length := hp.length_eq
  have hpos := List.length_pos_iff.2 hne
  have m1 : gt H 0 ∈ l := hp.mem_iff.1 (gt_mem (by omega))
  have m2 : hd l ∈ H := hp.mem_iff.2 (gt_mem (fi_lt hne))
  obtain ⟨i, hi, e1⟩ := List.getElem_of_mem m1
  obtain ⟨j, hj, e2⟩ := List.getElem_of_mem m2
  have h1 := hs.least hi
  rw [gt_eq hi, e1] at h1
  have h2 := hh.root j hj
  rw [gt_eq hj, e2] at h2
  refine hs.inj m1 (hp.mem_iff.1 m2) ?_
  rw [bef_not] at h1 h2
  omega
/-- What is left of the heap is what is left of the list. -/
theorem shed_eq {H H' l : List Th} (hh : Heap H) (hp : H.Perm l) (hs : Nos l) (hne : l ≠ []) (h' : H'.Perm ((swp H 0 (H.length - 1)).take (H.length - 1))) : H'.Perm (tk l) := by
  have hpos : 0 < H.length := by rw [hp.length_eq]; exact List.length_pos_iff.2 hne
  have h1 := (shed_perm hpos).trans (hp.trans (tk_perm hne).symm)
  rw [root_eq hh hp hs hne] at h1
  exact h'.trans h1.cons_inv
/-- What 'Next' tells. -/
def nd (l : List Th) : Int := if l = [] then 0 else (hd l).due
def some1 (l : List Th) : Bool := decide (l ≠ [])
/-- Whether one may be taken, what is told, what is left. -/
def can (l : List Th) (now : Int) : Bool := decide (l ≠ [] ∧ (hd l).due ≤ now)
def tx (l : List Th) (now : Int) : Int := if can l now then (hd l).x else 0
def tl (l : List Th) (now : Int) : List Th := if can l now then tk l else l
/-- All whose time has come, one after another, and what is left. -/
def dr (now : Int) : Nat → List Th → List Th × List Th
  | 0, l => ([], l)
  | n + 1, l => if l = [] ∨ now < (hd l).due then ([], l) else (hd l :: (dr now n (tk l)).1, (dr now n (tk l)).2)
theorem dr_stop {now : Int} {l : List Th} (h : l = [] ∨ now < (hd l).due) : ∀ n, dr now n l = ([], l)
  | 0 => rfl
  | n + 1 => by simp only [dr]; rw [if_pos h]
theorem dr_perm {now : Int} : ∀ (n : Nat) (l : List Th), ((dr now n l).1 ++ (dr now n l).2).Perm l
  | 0, l => by simp [dr]
  | n + 1, l => by
    simp only [dr]
    split
    · simp
    · rename_i h
      rw [not_or] at h
      exact ((dr_perm n (tk l)).cons (hd l)).trans (tk_perm h.1)
theorem dr_all {now : Int} : ∀ (n : Nat) (l : List Th), l.length ≤ n → (dr now n l).2 = [] ∨ now < (hd (dr now n l).2).due
  | 0, l, h => .inl (by simpa [dr] using h)
  | n + 1, l, h => by
    simp only [dr]
    split
    · rename_i h1; exact h1
    · rename_i h1
      rw [not_or] at h1
      refine dr_all n (tk l) ?_
      have := tk_len h1.1
      omega
theorem dr_due {now : Int} : ∀ (n : Nat) (l : List Th) (a : Th), a ∈ (dr now n l).1 → a.due ≤ now
  | 0, l, a, h => by simp [dr] at h
  | n + 1, l, a, h => by
    simp only [dr] at h
    split at h
    · simp at h
    · rename_i h1
      rw [not_or] at h1
      rcases List.mem_cons.1 h with rfl | h
      · omega
      · exact dr_due n _ a h
theorem dr_mem {now : Int} {n : Nat} {l : List Th} {a : Th} (h : a ∈ (dr now n l).1) : a ∈ l := (dr_perm n l).mem_iff.1 (List.mem_append_left _ h)
theorem dr_nos {now : Int} : ∀ (n : Nat) (l : List Th), Nos l → Nos (dr now n l).2
  | 0, l, h => h
  | n + 1, l, h => by
    simp only [dr]
    split
    · exact h
    · exact dr_nos n _ h.tk
theorem dr_sorted {now : Int} : ∀ (n : Nat) (l : List Th), Nos l → (dr now n l).1.Pairwise (fun a b => bef b a = false)
  | 0, l, h => .nil
  | n + 1, l, h => by
    simp only [dr]
    split
    · exact .nil
    · rename_i h1
      rw [not_or] at h1
      refine .cons (fun a ha => ?_) (dr_sorted n _ h.tk)
      have := (tk_perm h1.1).mem_iff.1 (List.mem_cons_of_mem _ (dr_mem ha))
      obtain ⟨i, hi, rfl⟩ := List.getElem_of_mem this
      have := h.least hi
      rwa [gt_eq hi] at this
theorem dr_len {now : Int} (n : Nat) (l : List Th) : (dr now n l).1.length + (dr now n l).2.length = l.length := by
  rw [← List.length_append]; exact (dr_perm n l).length_eq
def DR (now : Int) (l : List Th) : List Th × List Th := dr now l.length l
theorem can_false {l : List Th} {now : Int} (h : can l now = false) : l = [] ∨ now < (hd l).due := by
  unfold can at h
  by_cases hl : l = []
  · exact .inl hl
  · simp [hl] at h; exact .inr h
theorem can_true {l : List Th} {now : Int} (h : can l now = true) : l ≠ [] ∧ ¬ now < (hd l).due := by
  unfold can at h
  simp at h
  exact ⟨h.1, by omega⟩
theorem DR_stop {l : List Th} {now : Int} (h : can l now = false) : DR now l = ([], l) := dr_stop (can_false h) _
theorem DR_step {l : List Th} {now : Int} (h : can l now = true) : DR now l = (hd l :: (DR now (tk l)).1, (DR now (tk l)).2) := by
  obtain ⟨h1, h2⟩ := can_true h
  unfold DR
  rw [← tk_len h1]
  simp only [dr]
  rw [if_neg (by rw [not_or]; exact ⟨h1, h2⟩)]
end Go.Proofs.Ytliblcjfccijjaa.Agd
