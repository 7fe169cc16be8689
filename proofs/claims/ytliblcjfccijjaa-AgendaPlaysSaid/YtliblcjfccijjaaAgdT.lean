/- What the laws AgendaOrder and AgendaWaits say of lists: plain mathematics; a slice of whole numbers that came in. -/
import Derived.Test.YtliblcjfccijjaaAgdA
namespace Go.Proofs.Ytliblcjfccijjaa.Agd
open Go.RowKit Go.Proofs.Ytliblcjfccijjaa.Rw
set_option linter.unusedVariables false
set_option linter.unusedSimpArgs false
/-- What is in it once the first k of a list have been added: each by its place, or by its own worth. -/
def TL (Z : List Int) (f : Nat → Int) (k : Nat) : List Th := (List.range k).map (fun j => ⟨Z.getD j 0, j, f j⟩)
theorem TL_succ (Z : List Int) (f : Nat → Int) (k : Nat) : TL Z f (k + 1) = TL Z f k ++ [⟨Z.getD k 0, k, f k⟩] := by simp [TL, List.range_succ]
theorem TL_len (Z : List Int) (f : Nat → Int) (k : Nat) : (TL Z f k).length = k := by simp [TL]
theorem TL_mem {Z : List Int} {f : Nat → Int} {k : Nat} {t : Th} (h : t ∈ TL Z f k) : t.no < k ∧ t.due = Z.getD t.no 0 ∧ t.x = f t.no := by
  simp only [TL, List.mem_map, List.mem_range] at h
  obtain ⟨j, hj, rfl⟩ := h
  exact ⟨hj, rfl, rfl⟩
theorem TL_nos (Z : List Int) (f : Nat → Int) (k : Nat) : Nos (TL Z f k) := by
  unfold Nos TL
  rw [List.pairwise_map]
  exact List.pairwise_lt_range
theorem DR_perm (now : Int) (l : List Th) : ((DR now l).1 ++ (DR now l).2).Perm l := dr_perm _ _
theorem DR_rest {now : Int} {l : List Th} (hs : Nos l) : ∀ t ∈ (DR now l).2, now < t.due := fun t ht => by
  rcases dr_all (now := now) l.length l (Nat.le_refl _) with h | h
  · unfold DR at ht; rw [h] at ht; simp at ht
  · obtain ⟨i, hi, rfl⟩ := List.getElem_of_mem ht
    have h2 := fiN_least (DR now l).2 _ i hi
    rw [gt_eq hi] at h2
    have h3 : now < (gt (DR now l).2 (fi (DR now l).2)).due := h
    unfold fi at h3
    omega
theorem DR_due {now : Int} {l : List Th} {t : Th} (h : t ∈ (DR now l).1) : t.due ≤ now := dr_due _ _ t h
theorem DR_sorted {now : Int} {l : List Th} (hs : Nos l) : (DR now l).1.Pairwise (fun a b => bef b a = false) := dr_sorted _ _ hs
theorem nos_apart {l t : List Th} (hs : Nos l) (hp : t.Sublist l ∨ t.Perm l) : (t.map Th.no).Nodup := by
  have h1 : (l.map Th.no).Nodup := by
    unfold List.Nodup
    rw [List.pairwise_map]
    exact hs.imp (fun h => Nat.ne_of_lt h)
  rcases hp with h | h
  · exact h1.sublist (h.map _)
  · exact (h.map Th.no).nodup_iff.2 h1
/-- All come out: each once, in their order. -/
theorem order_facts {Z : List Int} {n : Nat} {now : Int} (hb : ∀ j, j < n → Z.getD j 0 ≤ now) :
    (DR now (TL Z (fun j => (j : Int)) n)).2 = [] ∧ (DR now (TL Z (fun j => (j : Int)) n)).1.length = n ∧ ∀ k, k < n → (gt (DR now (TL Z (fun j => (j : Int)) n)).1 k).x = (gt (DR now (TL Z (fun j => (j : Int)) n)).1 k).no ∧ (gt (DR now (TL Z (fun j => (j : Int)) n)).1 k).no < n ∧
      (gt (DR now (TL Z (fun j => (j : Int)) n)).1 k).due = Z.getD (gt (DR now (TL Z (fun j => (j : Int)) n)).1 k).no 0 ∧ (∀ j, j < k → (gt (DR now (TL Z (fun j => (j : Int)) n)).1 j).no ≠ (gt (DR now (TL Z (fun j => (j : Int)) n)).1 k).no) ∧
      (0 < k → bef (gt (DR now (TL Z (fun j => (j : Int)) n)).1 k) (gt (DR now (TL Z (fun j => (j : Int)) n)).1 (k - 1)) = false) := by
  generalize hL : TL Z (fun j => (j : Int)) n = L
  have hs : Nos L := hL ▸ TL_nos _ _ _
  have hm : ∀ t ∈ L, t.no < n ∧ t.due = Z.getD t.no 0 ∧ t.x = t.no := fun t ht => TL_mem (hL ▸ ht)
  have hp := DR_perm now L
  have hr : (DR now L).2 = [] := by
    rcases h : (DR now L).2 with _ | ⟨t, r⟩
    · rfl
    · have h1 := DR_rest (now := now) hs t (by rw [h]; exact List.mem_cons_self)
      have h2 := hm t (hp.mem_iff.1 (by rw [h]; exact List.mem_append_right _ List.mem_cons_self))
      have := hb t.no h2.1
      omega
  rw [hr, List.append_nil] at hp
  have hl : (DR now L).1.length = n := by rw [hp.length_eq, ← hL, TL_len]
  refine ⟨hr, hl, fun k hk => ?_⟩
  have hd := nos_apart hs (.inr hp)
  have hso := DR_sorted (now := now) hs
  generalize (DR now L).1 = t at *
  have hmk := hm _ (hp.mem_iff.1 (gt_mem (l := t) (i := k) (by omega)))
  refine ⟨hmk.2.2, hmk.1, hmk.2.1, fun j hj e => ?_, fun h0 => ?_⟩
  · have := List.pairwise_iff_getElem.1 hd j k (by simp; omega) (by simp; omega) hj
    rw [List.getElem_map, List.getElem_map] at this
    rw [gt_eq (by omega), gt_eq (by omega)] at e
    exact this e
  · have := List.pairwise_iff_getElem.1 hso (k - 1) k (by omega) (by omega) (by omega)
    rw [gt_eq (by omega), gt_eq (by omega)]
    exact this
/-- How many of the first k are due. -/
def cnt (Z : List Int) (now : Int) (k : Nat) : Nat := (TL Z (fun j => Z.getD j 0) k).countP (fun t => decide (t.due ≤ now))
theorem cnt_succ (Z : List Int) (now : Int) (k : Nat) : cnt Z now (k + 1) = cnt Z now k + if Z.getD k 0 ≤ now then 1 else 0 := by
  unfold cnt
  rw [TL_succ, List.countP_append]
  by_cases h : Z.getD k 0 ≤ now <;> simp [h]
theorem cnt_le (Z : List Int) (now : Int) (k : Nat) : cnt Z now k ≤ k := by
  unfold cnt
  have := List.countP_le_length (p := fun t : Th => decide (t.due ≤ now)) (l := TL Z (fun j => Z.getD j 0) k)
  rwa [TL_len] at this
theorem waits_facts {Z : List Int} {n : Nat} {now : Int} :
    (DR now (TL Z (fun j => Z.getD j 0) n)).1.length = cnt Z now n ∧ (DR now (TL Z (fun j => Z.getD j 0) n)).2.length + cnt Z now n = n ∧ (∀ k, k < cnt Z now n → ((DR now (TL Z (fun j => Z.getD j 0) n)).1.map Th.x).getD k 0 ≤ now) ∧
      some1 (DR now (TL Z (fun j => Z.getD j 0) n)).2 = decide (cnt Z now n < n) ∧ (cnt Z now n < n → now < nd (DR now (TL Z (fun j => Z.getD j 0) n)).2) := by
  have hc : cnt Z now n = (TL Z (fun j => Z.getD j 0) n).countP (fun t => decide (t.due ≤ now)) := rfl
  have hL0 := TL_len Z (fun j => Z.getD j 0) n
  have hm : ∀ t ∈ TL Z (fun j => Z.getD j 0) n, t.x = t.due := fun t ht => by
    have := TL_mem ht
    rw [this.2.1, this.2.2]
  have hs := TL_nos Z (fun j => Z.getD j 0) n
  generalize TL Z (fun j => Z.getD j 0) n = L at *
  have hp := DR_perm now L
  have h1 := hp.countP_eq (fun t => decide (t.due ≤ now))
  rw [List.countP_append] at h1
  have h2 : (DR now L).1.countP (fun t => decide (t.due ≤ now)) = (DR now L).1.length := List.countP_eq_length.2 (fun t ht => by simpa using DR_due ht)
  have h3 : (DR now L).2.countP (fun t => decide (t.due ≤ now)) = 0 := List.countP_eq_zero.2 (fun t ht => by simpa using DR_rest hs t ht)
  have h4 := hp.length_eq
  rw [List.length_append] at h4
  have e1 : (DR now L).1.length = cnt Z now n := by omega
  refine ⟨e1, by omega, fun k hk => ?_, ?_, fun h => ?_⟩
  · have hk' : k < (DR now L).1.length := by omega
    have : ((DR now L).1.map Th.x).getD k 0 = (DR now L).1[k].x := by simp [List.getD, hk']
    rw [this]
    have hmem : (DR now L).1[k] ∈ (DR now L).1 := List.getElem_mem _
    rw [hm _ (hp.mem_iff.1 (List.mem_append_left _ hmem))]
    exact DR_due hmem
  · unfold some1
    by_cases h : (DR now L).2 = []
    · rw [h] at h4
      simp only [List.length_nil, h] at h4 ⊢
      simp; omega
    · have := List.length_pos_iff.2 h
      simp only [ne_eq, h, not_false_eq_true, decide_true]
      symm
      simp; omega
  · have hne : (DR now L).2 ≠ [] := fun e => by rw [e] at h4; simp at h4; omega
    unfold nd
    rw [if_neg hne]
    exact DR_rest hs _ (gt_mem (fi_lt hne))
/-- A slice of whole numbers that came in. -/
structure In (w : World) (a : Option Addr) (len cap : Nat) (Z : List Int) : Prop where
  len_ : Z.length = len
  le : len ≤ cap
  max : cap ≤ 9223372036854775807
  rd : Rw.Rd encI 1 w a Z
  bd : ∀ z ∈ Z, -9223372036854775808 ≤ z ∧ z ≤ 9223372036854775807
theorem In.below {w w' : World} {a : Option Addr} {len cap : Nat} {Z : List Int} (h : In w a len cap Z) (hB : Below w.heap.size w w') : In w' a len cap Z := ⟨h.len_, h.le, h.max, h.rd.below hB, h.bd⟩
theorem In.at_ {w : World} {a : Option Addr} {len cap : Nat} {Z : List Int} (h : In w a len cap Z) {k : Nat} (hk : k < len) : ∃ b off, a = some ⟨b, off, none⟩ ∧ w.cell? ⟨b, off + k, none⟩ = some (.int .i64 (Z.getD k 0)) := by
  obtain ⟨b, off, e, -, hc⟩ := h.rd.at_ (i := k) (by rw [h.len_]; exact hk)
  have h0 := hc 0 _ rfl
  simp only [Nat.mul_one, Nat.add_zero] at h0
  exact ⟨b, off, e, h0⟩
theorem In.bound {w : World} {a : Option Addr} {len cap : Nat} {Z : List Int} (h : In w a len cap Z) (k : Nat) : -9223372036854775808 ≤ Z.getD k 0 ∧ Z.getD k 0 ≤ 9223372036854775807 := by
  by_cases hk : k < Z.length
  · have : Z.getD k 0 = Z[k] := by simp [List.getD, hk]
    rw [this]; exact h.bd _ (List.getElem_mem _)
  · have : Z.getD k 0 = 0 := by simp [List.getD, show Z.length ≤ k by omega]
    rw [this]; omega
end Go.Proofs.Ytliblcjfccijjaa.Agd
