/- Graphs as lists of links: the plain mathematics of layer graph; no Go in sight. -/
import Derived.Test.YtlmdandgjapmjaaNodX
namespace Go.Proofs.Ytlmdandgjapmjaa.Grf
set_option linter.unusedVariables false
abbrev Pr := Int × Int
/-- Are two linked? -/
def lk (L : List Pr) (a b : Int) : Bool := L.any fun p => (p.1 == a && p.2 == b) || (p.1 == b && p.2 == a)
theorem lk_nil (a b : Int) : lk [] a b = false := rfl
theorem lk_iff {L : List Pr} {a b : Int} : lk L a b = true ↔ (a, b) ∈ L ∨ (b, a) ∈ L := by
  unfold lk
  rw [List.any_eq_true]
  constructor
  · rintro ⟨⟨x, y⟩, hm, h⟩
    simp only [Bool.or_eq_true, Bool.and_eq_true, beq_iff_eq] at h
    rcases h with ⟨rfl, rfl⟩ | ⟨rfl, rfl⟩
    · exact .inl hm
    · exact .inr hm
  · rintro (h | h)
    · exact ⟨_, h, by simp⟩
    · exact ⟨_, h, by simp⟩
theorem lk_comm (L : List Pr) (a b : Int) : lk L a b = lk L b a := by
  rw [Bool.eq_iff_iff, lk_iff, lk_iff, Or.comm]
theorem lk_snoc (L : List Pr) (p : Pr) (a b : Int) : lk (L ++ [p]) a b = (lk L a b || ((p.1 == a && p.2 == b) || (p.1 == b && p.2 == a))) := by
  unfold lk
  rw [List.any_append]
  simp
theorem lk_ext {L M : List Pr} (h : ∀ a b, (a, b) ∈ L ∨ (b, a) ∈ L ↔ (a, b) ∈ M ∨ (b, a) ∈ M) : lk L = lk M := by
  funext a b
  rw [Bool.eq_iff_iff, lk_iff, lk_iff]
  exact h a b
theorem lk_minmax (L : List Pr) (a b : Int) : lk L (min a b) (max a b) = lk L a b := by
  by_cases h : a ≤ b
  · rw [Int.min_eq_left h, Int.max_eq_right h]
  · rw [Int.min_eq_right (by omega), Int.max_eq_left (by omega), lk_comm]
/-- What is wrong with a link. -/
def wr (n : Nat) (L : List Pr) (a b : Int) : Int :=
  if (decide (0 ≤ a) && decide (a < n) && (decide (0 ≤ b) && decide (b < n))) = false then 8 else if a = b then 5 else if lk L a b then 12 else 0
def erF (n : Nat) : List Pr → List Pr → Int
  | _, [] => 0
  | L, p :: r => if wr n L p.1 p.2 = 0 then erF n (L ++ [p]) r else wr n L p.1 p.2
def er (n : Int) (zs : List Pr) : Int := if n < 1 ∨ 64 < n then 1 else erF n.toNat [] zs
def Ok (n : Nat) (L : List Pr) : Prop :=
  (∀ p ∈ L, 0 ≤ p.1 ∧ p.1 < (n : Int) ∧ 0 ≤ p.2 ∧ p.2 < (n : Int) ∧ p.1 ≠ p.2) ∧ L.Pairwise fun p q => q ≠ p ∧ q ≠ (p.2, p.1)
theorem wr_zero {n : Nat} {L : List Pr} {a b : Int} : wr n L a b = 0 ↔ 0 ≤ a ∧ a < (n : Int) ∧ 0 ≤ b ∧ b < (n : Int) ∧ a ≠ b ∧ lk L a b = false := by
  unfold wr
  by_cases h1 : (decide (0 ≤ a) && decide (a < (n : Int)) && (decide (0 ≤ b) && decide (b < (n : Int)))) = false
  · rw [if_pos h1]
    constructor
    · intro h; cases h
    · rintro ⟨a1, a2, a3, a4, _⟩
      simp [a1, a2, a3, a4] at h1
  · rw [if_neg h1]
    simp only [Bool.not_eq_false, Bool.and_eq_true, decide_eq_true_iff] at h1
    by_cases h2 : a = b
    · rw [if_pos h2]
      constructor
      · intro h; cases h
      · rintro ⟨_, _, _, _, h, _⟩
        exact absurd h2 h
    · rw [if_neg h2]
      cases h3 : lk L a b
      · simp only [Bool.false_eq_true, if_false, true_iff]
        exact ⟨h1.1.1, h1.1.2, h1.2.1, h1.2.2, h2, by simp⟩
      · simp
theorem ok_nil (n : Nat) : Ok n [] := ⟨by simp, by simp⟩
theorem ok_snoc {n : Nat} {L : List Pr} {p : Pr} (h : Ok n L) (hw : wr n L p.1 p.2 = 0) : Ok n (L ++ [p]) := by
  obtain ⟨a1, a2, a3, a4, a5, a6⟩ := wr_zero.1 hw
  refine ⟨fun q hq => ?_, ?_⟩
  · rw [List.mem_append, List.mem_singleton] at hq
    rcases hq with hq | rfl
    · exact h.1 q hq
    · exact ⟨a1, a2, a3, a4, a5⟩
  · rw [List.pairwise_append]
    refine ⟨h.2, by simp, fun q hq r hr => ?_⟩
    rw [List.mem_singleton] at hr
    subst hr
    have hn : ¬ (lk L r.1 r.2 = true) := by rw [a6]; simp
    rw [lk_iff] at hn
    constructor
    · rintro rfl
      exact hn (.inl hq)
    · rintro rfl
      exact hn (.inr hq)
theorem ok_wr {n : Nat} {L r : List Pr} {p : Pr} (h : Ok n (L ++ p :: r)) : wr n L p.1 p.2 = 0 := by
  obtain ⟨a1, a2, a3, a4, a5⟩ := h.1 p (by simp)
  refine wr_zero.2 ⟨a1, a2, a3, a4, a5, ?_⟩
  have hp := (List.pairwise_append.1 h.2).2.2
  cases hk : lk L p.1 p.2 with
  | false => rfl
  | true =>
    rcases lk_iff.1 hk with hm | hm
    · exact absurd rfl (hp _ hm p (by simp)).1
    · exact absurd rfl (hp _ hm p (by simp)).2
theorem ok_er {n : Nat} : ∀ {r L : List Pr}, Ok n (L ++ r) → erF n L r = 0
  | [], _, _ => rfl
  | p :: r, L, h => by
    rw [erF, if_pos (ok_wr h)]
    exact ok_er (by rwa [List.append_assoc])
theorem er_ok {n : Nat} : ∀ {r L : List Pr}, Ok n L → erF n L r = 0 → Ok n (L ++ r)
  | [], L, h, _ => by rwa [List.append_nil]
  | p :: r, L, h, he => by
    rw [erF] at he
    by_cases hw : wr n L p.1 p.2 = 0
    · rw [if_pos hw] at he
      have := er_ok (ok_snoc h hw) he
      rwa [List.append_assoc] at this
    · rw [if_neg hw] at he
      exact absurd he hw
theorem erF_step {n k : Nat} {zs : List Pr} (hk : k < zs.length) (h0 : wr n (zs.take k) (zs.getD k (0, 0)).1 (zs.getD k (0, 0)).2 = 0) :
    erF n (zs.take k) (zs.drop k) = erF n (zs.take (k + 1)) (zs.drop (k + 1)) := by
  have e1 : zs.drop k = zs.getD k (0, 0) :: zs.drop (k + 1) := by rw [List.drop_eq_getElem_cons hk]; simp [hk]
  have e2 : zs.take (k + 1) = zs.take k ++ [zs.getD k (0, 0)] := by rw [List.take_succ_eq_append_getElem hk]; simp [hk]
  rw [e1, erF, if_pos h0, e2]
theorem erF_stop {n k : Nat} {zs : List Pr} (hk : k < zs.length) (h0 : wr n (zs.take k) (zs.getD k (0, 0)).1 (zs.getD k (0, 0)).2 ≠ 0) :
    erF n (zs.take k) (zs.drop k) = wr n (zs.take k) (zs.getD k (0, 0)).1 (zs.getD k (0, 0)).2 := by
  have e1 : zs.drop k = zs.getD k (0, 0) :: zs.drop (k + 1) := by rw [List.drop_eq_getElem_cons hk]; simp [hk]
  rw [e1, erF, if_neg h0]
theorem take_snoc {zs : List Pr} {k : Nat} (hk : k < zs.length) : zs.take (k + 1) = zs.take k ++ [zs.getD k (0, 0)] := by
  rw [List.take_succ_eq_append_getElem hk]; simp [hk]
theorem er_in {n : Nat} (h1 : 1 ≤ n) (h2 : n ≤ 64) (zs : List Pr) : er n zs = erF n [] zs := by
  unfold er
  rw [if_neg (by omega), Int.toNat_natCast]
theorem er_out {n : Int} (h : n < 1 ∨ 64 < n) (zs : List Pr) : er n zs = 1 := by
  unfold er
  rw [if_pos h]
/-- Whom a node is linked with. -/
def nearP (L : List Pr) (i : Int) : Nat := Nodes.setP fun j => lk L i (j : Int)
theorem near_lt (L : List Pr) (i : Int) : nearP L i < 18446744073709551616 := Nodes.setP_lt _
theorem near_nil (i : Int) : nearP [] i = 0 := by
  refine Nodes.eq_of_bits (near_lt _ _) (by omega) fun j hj => ?_
  rw [nearP, Nodes.bit_setP, lk_nil]
  simp
theorem near_congr {L M : List Pr} (h : lk L = lk M) (i : Int) : nearP L i = nearP M i := by rw [nearP, nearP, h]
theorem near_one {L : List Pr} {a b : Int} (hab : a ≠ b) : nearP (L ++ [(a, b)]) a = Nodes.withN (nearP L a) [b] := by
  refine Nodes.setP_congr fun j hj => ?_
  rw [nearP, Nodes.bit_setP, lk_snoc]
  have h1 : (b == a) = false := beq_eq_false_iff_ne.2 (Ne.symm hab)
  simp only [hj, decide_true, Bool.true_and, beq_self_eq_true, h1, Bool.and_false, Bool.or_false, List.mem_singleton]
  congr 1
  rw [Bool.eq_iff_iff, beq_iff_eq, decide_eq_true_iff]
  exact eq_comm
theorem near_two {L : List Pr} {a b : Int} (hab : a ≠ b) : nearP (L ++ [(a, b)]) b = Nodes.withN (nearP L b) [a] := by
  refine Nodes.setP_congr fun j hj => ?_
  rw [nearP, Nodes.bit_setP, lk_snoc]
  have h1 : (a == b) = false := beq_eq_false_iff_ne.2 hab
  simp only [hj, decide_true, Bool.true_and, beq_self_eq_true, h1, Bool.and_true, Bool.false_and, Bool.false_or, List.mem_singleton]
  congr 1
  rw [Bool.eq_iff_iff, beq_iff_eq, decide_eq_true_iff]
  exact eq_comm
theorem near_else {L : List Pr} {a b i : Int} (ha : i ≠ a) (hb : i ≠ b) : nearP (L ++ [(a, b)]) i = nearP L i := by
  refine Nodes.setP_congr fun j hj => ?_
  rw [lk_snoc]
  have h1 : (a == i) = false := beq_eq_false_iff_ne.2 (Ne.symm ha)
  have h2 : (b == i) = false := beq_eq_false_iff_ne.2 (Ne.symm hb)
  simp [h1, h2]
theorem lk_range {n : Nat} {L : List Pr} (h : Ok n L) {a b : Int} (hl : lk L a b = true) : 0 ≤ a ∧ a < (n : Int) ∧ 0 ≤ b ∧ b < (n : Int) ∧ a ≠ b := by
  rcases lk_iff.1 hl with hm | hm
  · obtain ⟨a1, a2, a3, a4, a5⟩ := h.1 _ hm
    exact ⟨a1, a2, a3, a4, a5⟩
  · obtain ⟨a1, a2, a3, a4, a5⟩ := h.1 _ hm
    exact ⟨a3, a4, a1, a2, Ne.symm a5⟩
theorem near_out {n : Nat} {L : List Pr} (h : Ok n L) {i : Int} (hi : ¬ (0 ≤ i ∧ i < (n : Int))) : nearP L i = 0 := by
  refine Nodes.eq_of_bits (near_lt _ _) (by omega) fun j hj => ?_
  rw [nearP, Nodes.bit_setP, Nat.zero_testBit]
  cases hl : lk L i (j : Int) with
  | false => simp
  | true =>
    have := lk_range h hl
    exact absurd ⟨this.1, this.2.1⟩ hi
theorem near_self {n : Nat} {L : List Pr} (h : Ok n L) (j : Nat) : (nearP L (j : Int)).testBit j = false := by
  rw [nearP, Nodes.bit_setP]
  cases hl : lk L (j : Int) (j : Int) with
  | false => simp
  | true => exact absurd rfl (lk_range h hl).2.2.2.2
/-- The nodes that one is linked with, as a list. -/
def nearL (n : Nat) (L : List Pr) (i : Int) : List Int := ((List.range n).filter fun j => lk L i (j : Nat)).map fun j : Nat => (j : Int)
theorem nearL_hit {n : Nat} {L : List Pr} {i : Int} (h : lk L i (n : Nat) = true) : nearL (n + 1) L i = nearL n L i ++ [(n : Int)] := by
  simp [nearL, List.range_succ, List.filter_append, h]
theorem nearL_miss {n : Nat} {L : List Pr} {i : Int} (h : lk L i (n : Nat) = false) : nearL (n + 1) L i = nearL n L i := by
  simp [nearL, List.range_succ, List.filter_append, h]
theorem nearL_len (n : Nat) (L : List Pr) (i : Int) : (nearL n L i).length ≤ n := by
  have := List.length_filter_le (fun j => lk L i ((j : Nat) : Int)) (List.range n)
  simpa [nearL] using this
theorem of_nearL {n : Nat} {L : List Pr} (h : Ok n L) (hn : n ≤ 64) (i : Int) : Nodes.ofL (nearL n L i) = nearP L i := by
  refine Nodes.setP_congr fun j hj => ?_
  rw [Bool.eq_iff_iff, decide_eq_true_iff]
  unfold nearL
  rw [List.mem_map]
  constructor
  · rintro ⟨k, hk, e⟩
    obtain rfl : k = j := by omega
    exact (List.mem_filter.1 hk).2
  · intro hl
    have := lk_range h hl
    exact ⟨j, List.mem_filter.2 ⟨List.mem_range.2 (by omega), hl⟩, rfl⟩
/-- Pairs in order, those of them that one asks for. -/
def rowU (q : Nat → Nat → Bool) (a c : Nat) : List Pr := ((List.range' (a + 1) c).filter (q a)).map fun b : Nat => ((a : Int), (b : Int))
def allU (q : Nat → Nat → Bool) (n m : Nat) : List Pr := (List.range m).flatMap fun a => rowU q a (n - (a + 1))
def yes (a b : Nat) : Bool := true
def full (n : Nat) : List Pr := allU yes n n
def linksL (n : Nat) (L : List Pr) : List Pr := allU (fun a b => lk L (a : Int) (b : Int)) n n
theorem rowU_zero (q : Nat → Nat → Bool) (a : Nat) : rowU q a 0 = [] := rfl
theorem rowU_hit {q : Nat → Nat → Bool} {a c : Nat} (h : q a (a + 1 + c) = true) : rowU q a (c + 1) = rowU q a c ++ [((a : Int), ((a + 1 + c : Nat) : Int))] := by
  simp [rowU, List.range'_concat, List.filter_append, h]
theorem rowU_miss {q : Nat → Nat → Bool} {a c : Nat} (h : q a (a + 1 + c) = false) : rowU q a (c + 1) = rowU q a c := by
  simp [rowU, List.range'_concat, List.filter_append, h]
theorem allU_zero (q : Nat → Nat → Bool) (n : Nat) : allU q n 0 = [] := rfl
theorem allU_succ (q : Nat → Nat → Bool) (n m : Nat) : allU q n (m + 1) = allU q n m ++ rowU q m (n - (m + 1)) := by
  simp [allU, List.range_succ, List.flatMap_append]
theorem mem_rowU {q : Nat → Nat → Bool} {a c : Nat} {p : Pr} : p ∈ rowU q a c ↔ ∃ b, a < b ∧ b < a + 1 + c ∧ q a b = true ∧ p = ((a : Int), (b : Int)) := by
  unfold rowU
  rw [List.mem_map]
  constructor
  · rintro ⟨b, hb, rfl⟩
    rw [List.mem_filter, List.mem_range'_1] at hb
    exact ⟨b, by omega, by omega, hb.2, rfl⟩
  · rintro ⟨b, h1, h2, h3, rfl⟩
    exact ⟨b, List.mem_filter.2 ⟨List.mem_range'_1.2 (by omega), h3⟩, rfl⟩
theorem mem_allU {q : Nat → Nat → Bool} {n m : Nat} {p : Pr} : p ∈ allU q n m ↔ ∃ a b : Nat, a < m ∧ a < b ∧ b < n ∧ q a b = true ∧ p = ((a : Int), (b : Int)) := by
  unfold allU
  rw [List.mem_flatMap]
  constructor
  · rintro ⟨a, ha, hp⟩
    obtain ⟨b, h1, h2, h3, rfl⟩ := mem_rowU.1 hp
    exact ⟨a, b, List.mem_range.1 ha, h1, by omega, h3, rfl⟩
  · rintro ⟨a, b, h1, h2, h3, h4, rfl⟩
    exact ⟨a, List.mem_range.2 h1, mem_rowU.2 ⟨b, h2, by omega, h4, rfl⟩⟩
def Lt (p q : Pr) : Prop := p.1 < q.1 ∨ p.1 = q.1 ∧ p.2 < q.2
theorem rowU_lt (q : Nat → Nat → Bool) (a c : Nat) : (rowU q a c).Pairwise Lt := by
  unfold rowU
  rw [List.pairwise_map]
  refine List.Pairwise.imp ?_ (List.Pairwise.filter (q a) (List.pairwise_lt_range' (s := a + 1) (n := c)))
  intro x y h
  exact .inr ⟨rfl, by simpa using h⟩
theorem allU_lt (q : Nat → Nat → Bool) (n m : Nat) : (allU q n m).Pairwise Lt := by
  induction m with
  | zero => rw [allU_zero]; simp
  | succ m ih =>
    rw [allU_succ, List.pairwise_append]
    refine ⟨ih, rowU_lt _ _ _, fun p hp r hr => ?_⟩
    obtain ⟨a, b, h1, _, _, _, rfl⟩ := mem_allU.1 hp
    obtain ⟨b', _, _, _, rfl⟩ := mem_rowU.1 hr
    exact .inl (by simpa using h1)
theorem ok_sorted {n : Nat} {L : List Pr} (h1 : ∀ p ∈ L, 0 ≤ p.1 ∧ p.1 < p.2 ∧ p.2 < (n : Int)) (h2 : L.Pairwise Lt) : Ok n L := by
  refine ⟨fun p hp => ?_, ?_⟩
  · have := h1 p hp
    exact ⟨this.1, by omega, by omega, this.2.2, by omega⟩
  · refine List.Pairwise.imp_of_mem ?_ h2
    intro p q hp hq hl
    have a1 := h1 p hp
    have a2 := h1 q hq
    refine ⟨?_, ?_⟩
    · rintro rfl
      rcases hl with h | h <;> omega
    · rintro rfl
      simp only at a2
      omega
theorem allU_ok (q : Nat → Nat → Bool) (n : Nat) : Ok n (allU q n n) :=
  ok_sorted (fun p hp => by
    obtain ⟨a, b, h1, h2, h3, _, rfl⟩ := mem_allU.1 hp
    simp only
    omega) (allU_lt _ _ _)
theorem filter_row (q : Nat → Nat → Bool) (f : Pr → Bool) (a c : Nat) : (rowU q a c).filter f = rowU (fun a b => q a b && f ((a : Int), (b : Int))) a c := by
  unfold rowU
  rw [List.filter_map, List.filter_filter]
  congr 1
  refine List.filter_congr fun b _ => ?_
  simp [Bool.and_comm]
theorem filter_all (q : Nat → Nat → Bool) (f : Pr → Bool) (n m : Nat) : (allU q n m).filter f = allU (fun a b => q a b && f ((a : Int), (b : Int))) n m := by
  induction m with
  | zero => rfl
  | succ m ih => rw [allU_succ, allU_succ, List.filter_append, ih, filter_row]
theorem full_filter (n : Nat) (L : List Pr) : (full n).filter (fun p => lk L p.1 p.2) = linksL n L := by
  unfold full linksL
  rw [filter_all]
  congr 1
theorem links_congr {n : Nat} {L M : List Pr} (h : lk L = lk M) : linksL n L = linksL n M := by unfold linksL; rw [h]
theorem lk_links {n : Nat} {L : List Pr} (h : Ok n L) : lk (linksL n L) = lk L := by
  funext a b
  rw [Bool.eq_iff_iff, lk_iff]
  unfold linksL
  rw [mem_allU, mem_allU]
  constructor
  · rintro (⟨x, y, _, _, _, hl, e⟩ | ⟨x, y, _, _, _, hl, e⟩)
    · injection e with e1 e2
      rw [e1, e2]; exact hl
    · injection e with e1 e2
      rw [e1, e2, lk_comm]; exact hl
  · intro hl
    obtain ⟨a1, a2, a3, a4, a5⟩ := lk_range h hl
    obtain ⟨x, rfl⟩ := Int.eq_ofNat_of_zero_le a1
    obtain ⟨y, rfl⟩ := Int.eq_ofNat_of_zero_le a3
    by_cases hxy : x < y
    · exact .inl ⟨x, y, by omega, hxy, by omega, hl, rfl⟩
    · exact .inr ⟨y, x, by omega, by omega, by omega, by rw [lk_comm]; exact hl, rfl⟩
/-- Each link is there once. -/
theorem nodup_le {α : Type} [DecidableEq α] : ∀ {l m : List α}, l.Nodup → (∀ x ∈ l, x ∈ m) → l.length ≤ m.length
  | [], m, _, _ => Nat.zero_le _
  | a :: l, m, hn, hs => by
    have ha := hs a (by simp)
    have h := nodup_le (l := l) (m := m.erase a) (List.nodup_cons.1 hn).2 (fun x hx => by
      have hne : x ≠ a := fun e => (List.nodup_cons.1 hn).1 (e ▸ hx)
      exact (List.mem_erase_of_ne hne).2 (hs x (by simp [hx])))
    have h2 := List.length_erase_of_mem ha
    have h3 := List.length_pos_of_mem ha
    rw [List.length_cons]
    omega
def norm (p : Pr) : Pr := (min p.1 p.2, max p.1 p.2)
theorem norm_nodup {n : Nat} {L : List Pr} (h : Ok n L) : (L.map norm).Nodup := by
  unfold List.Nodup
  rw [List.pairwise_map]
  refine List.Pairwise.imp ?_ h.2
  rintro ⟨a, b⟩ ⟨c, d⟩ ⟨h1, h2⟩ e
  simp only [norm, Prod.mk.injEq] at e
  simp only [ne_eq, Prod.mk.injEq, not_and] at h1 h2
  omega
theorem links_len {n : Nat} {L : List Pr} (h : Ok n L) : (linksL n L).length = L.length := by
  have hk := lk_links h
  have hO : Ok n (linksL n L) := allU_ok _ _
  have e1 : (L.map norm).length = L.length := List.length_map _
  have e2 : ((linksL n L).map norm).length = (linksL n L).length := List.length_map _
  refine Nat.le_antisymm ?_ ?_
  · rw [← e1, ← e2]
    refine nodup_le (norm_nodup hO) fun x hx => ?_
    obtain ⟨p, hp, rfl⟩ := List.mem_map.1 hx
    have hl : lk L p.1 p.2 = true := by rw [← hk, lk_iff]; exact .inl hp
    rcases lk_iff.1 hl with hm | hm
    · exact List.mem_map.2 ⟨_, hm, rfl⟩
    · exact List.mem_map.2 ⟨_, hm, by simp only [norm, Prod.mk.injEq]; omega⟩
  · rw [← e1, ← e2]
    refine nodup_le (norm_nodup h) fun x hx => ?_
    obtain ⟨p, hp, rfl⟩ := List.mem_map.1 hx
    have hl : lk (linksL n L) p.1 p.2 = true := by rw [hk, lk_iff]; exact .inl hp
    rcases lk_iff.1 hl with hm | hm
    · exact List.mem_map.2 ⟨_, hm, rfl⟩
    · exact List.mem_map.2 ⟨_, hm, by simp only [norm, Prod.mk.injEq]; omega⟩
theorem allU_len (q : Nat → Nat → Bool) (n m : Nat) : (allU q n m).length ≤ m * n := by
  induction m with
  | zero => rw [allU_zero]; simp
  | succ m ih =>
    rw [allU_succ, List.length_append, Nat.add_mul, Nat.one_mul]
    have : (rowU q m (n - (m + 1))).length ≤ n := by
      unfold rowU
      rw [List.length_map]
      have := List.length_filter_le (q m) (List.range' (m + 1) (n - (m + 1)))
      rw [List.length_range'] at this
      omega
    omega
theorem allU_len64 (q : Nat → Nat → Bool) {n : Nat} (h : n ≤ 64) : (allU q n n).length ≤ 4096 :=
  Nat.le_trans (allU_len q n n) (Nat.mul_le_mul h h)
/-- Without the links of some nodes. -/
def keep (S : Nat) (p : Pr) : Bool := !S.testBit p.1.toNat && !S.testBit p.2.toNat
def woL (n S : Nat) (L : List Pr) : List Pr := (linksL n L).filter (keep S)
def offL (off : List Int) (L : List Pr) : List Pr := L.filter fun p => !decide (p.1 ∈ off) && !decide (p.2 ∈ off)
theorem ok_filter {n : Nat} {L : List Pr} (f : Pr → Bool) (h : Ok n L) : Ok n (L.filter f) :=
  ⟨fun p hp => h.1 p (List.mem_filter.1 hp).1, h.2.filter f⟩
theorem ok_take {n : Nat} {L : List Pr} (h : Ok n L) (k : Nat) : Ok n (L.take k) :=
  ⟨fun p hp => h.1 p (List.mem_of_mem_take hp), h.2.sublist (List.take_sublist _ _)⟩
theorem wo_off {n S : Nat} {L : List Pr} (h : Ok n L) (hn : n ≤ 64) (hS : S < 18446744073709551616) : lk (woL n S L) = lk (offL (Nodes.memI S) L) := by
  have hk := lk_links h
  have hmem : ∀ z : Int, 0 ≤ z → z < 64 → (S.testBit z.toNat = true ↔ z ∈ Nodes.memI S) := fun z h0 h1 => by
    obtain ⟨j, rfl⟩ := Int.eq_ofNat_of_zero_le h0
    have hj : j < 64 := by omega
    rw [Nodes.mem_memI, Int.toNat_natCast]
    simp [hj]
  have key : ∀ a b : Int, lk L a b = true → keep S (a, b) = (!decide (a ∈ Nodes.memI S) && !decide (b ∈ Nodes.memI S)) := fun a b hl => by
    obtain ⟨a1, a2, a3, a4, _⟩ := lk_range h hl
    have m1 := hmem a a1 (by omega)
    have m2 := hmem b a3 (by omega)
    unfold keep
    rw [Bool.eq_iff_iff]
    simp only [Bool.and_eq_true, Bool.not_eq_true', decide_eq_false_iff_not, ← m1, ← m2, Bool.not_eq_true]
  have ksym : ∀ a b : Int, keep S (a, b) = keep S (b, a) := fun a b => by unfold keep; rw [Bool.and_comm]
  funext a b
  rw [Bool.eq_iff_iff, lk_iff, lk_iff]
  unfold woL offL
  simp only [List.mem_filter]
  have h1 : ((a, b) ∈ linksL n L ∨ (b, a) ∈ linksL n L) ↔ ((a, b) ∈ L ∨ (b, a) ∈ L) := by rw [← lk_iff, ← lk_iff, hk]
  constructor
  · intro hh
    have hl : lk L a b = true := by
      rw [lk_iff, ← h1]
      rcases hh with h | h
      · exact .inl h.1
      · exact .inr h.1
    have hkp : keep S (a, b) = true := by
      rcases hh with h | h
      · exact h.2
      · rw [ksym]; exact h.2
    rw [key a b hl] at hkp
    rcases lk_iff.1 hl with h | h
    · exact .inl ⟨h, hkp⟩
    · exact .inr ⟨h, by rw [Bool.and_comm]; exact hkp⟩
  · intro hh
    have hl : lk L a b = true := by
      rw [lk_iff]
      rcases hh with h | h
      · exact .inl h.1
      · exact .inr h.1
    have hkp : keep S (a, b) = true := by
      rw [key a b hl]
      rcases hh with h | h
      · exact h.2
      · rw [Bool.and_comm]; exact h.2
    rcases h1.2 (lk_iff.1 hl) with h | h
    · exact .inl ⟨h, hkp⟩
    · exact .inr ⟨h, by rw [ksym]; exact hkp⟩
/-- A ring. -/
def ringU (k : Nat) : List Pr := (List.range k).map fun i : Nat => ((i : Int), ((i + 1 : Nat) : Int))
theorem ringU_succ (k : Nat) : ringU (k + 1) = ringU k ++ [((k : Int), ((k + 1 : Nat) : Int))] := by simp [ringU, List.range_succ]
def ring (n : Nat) : List Pr := ringU (n - 1) ++ if 2 < n then [(((n - 1 : Nat) : Int), 0)] else []
theorem ringU_lt (k : Nat) : (ringU k).Pairwise Lt := by
  unfold ringU
  rw [List.pairwise_map]
  exact List.Pairwise.imp (fun h => .inl (by simpa using h)) List.pairwise_lt_range
theorem mem_ringU {k : Nat} {p : Pr} : p ∈ ringU k ↔ ∃ i, i < k ∧ p = ((i : Int), ((i + 1 : Nat) : Int)) := by
  unfold ringU
  rw [List.mem_map]
  constructor
  · rintro ⟨i, hi, rfl⟩
    exact ⟨i, List.mem_range.1 hi, rfl⟩
  · rintro ⟨i, hi, rfl⟩
    exact ⟨i, List.mem_range.2 hi, rfl⟩
theorem ringU_ok {n : Nat} : Ok n (ringU (n - 1)) :=
  ok_sorted (fun p hp => by
    obtain ⟨i, hi, rfl⟩ := mem_ringU.1 hp
    simp only
    omega) (ringU_lt _)
theorem ring_ok (n : Nat) : Ok n (ring n) := by
  unfold ring
  by_cases h : 2 < n
  · rw [if_pos h]
    refine ok_snoc ringU_ok (wr_zero.2 ⟨by simp only; omega, by simp only; omega, by simp only; omega, by simp only; omega, by simp only; omega, ?_⟩)
    cases hl : lk (ringU (n - 1)) ((n - 1 : Nat) : Int) 0 with
    | false => simp
    | true =>
      rcases lk_iff.1 hl with hm | hm
      · obtain ⟨i, hi, e⟩ := mem_ringU.1 hm
        injection e with e1 e2
        omega
      · obtain ⟨i, hi, e⟩ := mem_ringU.1 hm
        injection e with e1 e2
        omega
  · rw [if_neg h, List.append_nil]
    exact ringU_ok
theorem ring_len (n : Nat) : (ring n).length ≤ n := by
  unfold ring ringU
  by_cases h : 2 < n
  · rw [if_pos h, List.length_append, List.length_map, List.length_range]; simp; omega
  · rw [if_neg h, List.length_append, List.length_map, List.length_range]; simp
end Go.Proofs.Ytlmdandgjapmjaa.Grf
