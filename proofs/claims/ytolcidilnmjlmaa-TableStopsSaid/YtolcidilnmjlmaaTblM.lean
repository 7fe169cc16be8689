/- Rows in the order of their keys: plain mathematics. -/
import Derived.Test.YtolcidilnmjlmaaKeyM
import Derived.Test.YtolcidilnmjlmaaTabB
namespace Go.Proofs.Ytolcidilnmjlmaa.Tbl
open Go.Proofs.Ytolcidilnmjlmaa.Key
open Go.RowKit
set_option linter.unusedVariables false
/-- How many stand ahead of a key. -/
def pos (ks : List Ky) (k : Ky) : Nat := (ks.takeWhile (fun y => ltK y k)).length
theorem pos_le (ks : List Ky) (k : Ky) : pos ks k ≤ ks.length := (List.takeWhile_sublist _).length_le
theorem pos_lt {k : Ky} : ∀ {ks : List Ky} {t : Nat}, t < pos ks k → ltK (ks.getD t default) k = true
  | [], t, h => by simp [pos] at h
  | a :: ks, t, h => by
    unfold pos at h
    rw [List.takeWhile_cons] at h
    by_cases ha : ltK a k = true
    · rw [if_pos ha] at h
      cases t with
      | zero => simpa using ha
      | succ t =>
        have := pos_lt (k := k) (ks := ks) (t := t) (by unfold pos; simpa using h)
        simpa using this
    · rw [if_neg ha] at h
      simp at h
theorem pos_stop {k : Ky} : ∀ {ks : List Ky}, pos ks k < ks.length → ltK (ks.getD (pos ks k) default) k = false
  | [], h => by simp at h
  | a :: ks, h => by
    unfold pos at h ⊢
    rw [List.takeWhile_cons] at h ⊢
    by_cases ha : ltK a k = true
    · rw [if_pos ha] at h ⊢
      simp only [List.length_cons, Nat.add_lt_add_iff_right] at h
      have := pos_stop (k := k) (ks := ks) h
      simpa [pos] using this
    · rw [if_neg ha]
      simpa using ha
theorem str_lt {ks : List Ky} (h : Str ks) {i j : Nat} (hij : i < j) (hj : j < ks.length) : ltK (ks.getD i default) (ks.getD j default) = true := by
  have := List.pairwise_iff_getElem.1 h i j (by omega) hj hij
  simpa [List.getD, hj, show i < ks.length by omega] using this
theorem pos_ge {ks : List Ky} {k : Ky} (h : Str ks) {t : Nat} (h1 : pos ks k ≤ t) (h2 : t < ks.length) : ltK (ks.getD t default) k = false := by
  have h0 := pos_stop (k := k) (ks := ks) (by omega)
  rcases Nat.eq_or_lt_of_le h1 with e | hlt
  · rw [← e]; exact h0
  · cases hv : ltK (ks.getD t default) k with
    | false => rfl
    | true => rw [lt_trans (str_lt h hlt h2) hv] at h0; cases h0
theorem pos_is {ks : List Ky} {k : Ky} {i : Nat} (hi : i ≤ ks.length) (h1 : ∀ t, t < i → ltK (ks.getD t default) k = true) (h2 : ∀ t, i ≤ t → t < ks.length → ltK (ks.getD t default) k = false) : pos ks k = i := by
  have hle := pos_le ks k
  rcases Nat.lt_trichotomy (pos ks k) i with h | h | h
  · have := pos_stop (k := k) (ks := ks) (by omega)
    rw [h1 _ h] at this; cases this
  · exact h
  · have := pos_lt (k := k) (ks := ks) h
    rw [h2 i (Nat.le_refl _) (by omega)] at this; cases this
theorem getD_mem {ks : List Ky} {t : Nat} (h : t < ks.length) : ks.getD t default ∈ ks := by simp [List.getD, h]
theorem pos_at {ks : List Ky} {k : Ky} (h : Str ks) (hk : k ∈ ks) : pos ks k < ks.length ∧ ks.getD (pos ks k) default = k := by
  obtain ⟨j, hj, e⟩ := List.getElem_of_mem hk
  have ej : ks.getD j default = k := by simp [List.getD, hj, e]
  have : pos ks k = j := by
    refine pos_is (by omega) (fun t ht => ?_) (fun t h1 h2 => ?_)
    · have := str_lt h ht hj; rwa [ej] at this
    · rcases Nat.eq_or_lt_of_le h1 with e1 | hlt
      · rw [← e1, ej]; exact lt_irrefl k
      · have := str_lt h hlt h2; rw [ej] at this; exact lt_asymm this
  rw [this]
  exact ⟨hj, ej⟩
theorem strR_nodup {ks : List Ky} (h : Str ks) : ks.Nodup := h.imp (fun {a b} hab e => by subst e; rw [lt_irrefl] at hab; cases hab)
/-- One more key. -/
def insP (ks : List Ky) (k : Ky) : List Ky := ks.take (pos ks k) ++ k :: ks.drop (pos ks k)
theorem str_insP {ks : List Ky} {k : Ky} (h : Str ks) (hk : k ∉ ks) : Str (insP ks k) := by
  unfold insP Str
  have hA : ∀ a ∈ ks.take (pos ks k), ltK a k = true := fun a ha => by
    obtain ⟨t, ht, rfl⟩ := List.getElem_of_mem ha
    rw [List.length_take] at ht
    have := pos_lt (k := k) (ks := ks) (t := t) (by omega)
    simpa [List.getD, show t < ks.length by omega] using this
  have hB : ∀ b ∈ ks.drop (pos ks k), ltK k b = true := fun b hb => by
    obtain ⟨t, ht, rfl⟩ := List.getElem_of_mem hb
    rw [List.length_drop] at ht
    have h0 := pos_ge (k := k) h (t := pos ks k + t) (by omega) (by omega)
    have e : ks.getD (pos ks k + t) default = (ks.drop (pos ks k))[t]'(by rw [List.length_drop]; exact ht) := by simp [List.getD, show pos ks k + t < ks.length by omega]
    rw [e] at h0
    cases hv : ltK k (ks.drop (pos ks k))[t] with
    | true => rfl
    | false => exact absurd (lt_total hv h0) (fun e1 => hk (by rw [e1]; exact List.mem_of_mem_drop (List.getElem_mem _)))
  rw [List.pairwise_append]
  refine ⟨h.sublist (List.take_sublist _ _), List.pairwise_cons.2 ⟨hB, h.sublist (List.drop_sublist _ _)⟩, fun a ha b hb => ?_⟩
  rcases List.mem_cons.1 hb with rfl | hb
  · exact hA a ha
  · exact lt_trans (hA a ha) (hB b hb)
theorem insP_len (ks : List Ky) (k : Ky) : (insP ks k).length = ks.length + 1 := by
  have := pos_le ks k
  unfold insP
  simp
  omega
theorem insP_ne (ks : List Ky) (k : Ky) : insP ks k ≠ [] := by unfold insP; simp
/-- One key less. -/
def delP (ks : List Ky) (i : Nat) : List Ky := ks.take i ++ ks.drop (i + 1)
theorem str_delP {ks : List Ky} (h : Str ks) (i : Nat) : Str (delP ks i) := by
  unfold delP
  have : (ks.take i ++ ks.drop (i + 1)).Sublist ks := by
    conv => rhs; rw [← List.take_append_drop i ks]
    exact List.Sublist.append (List.Sublist.refl _) (by
      rw [show ks.drop (i + 1) = (ks.drop i).drop 1 by rw [List.drop_drop]]
      exact List.drop_sublist _ _)
  exact h.sublist this
theorem delP_len {ks : List Ky} {i : Nat} (h : i < ks.length) : (delP ks i).length = ks.length - 1 := by unfold delP; simp; omega
/-! Rows. -/
abbrev Row := Ky × Int
def keys (d : List Row) : List Ky := d.map Prod.fst
def lookR : List Row → Ky → Option Int
  | [], _ => none
  | r :: d, k => if r.1 = k then some r.2 else lookR d k
theorem lookR_none {k : Ky} : ∀ {d : List Row}, lookR d k = none ↔ k ∉ keys d
  | [] => by simp [lookR, keys]
  | r :: d => by
    unfold lookR
    by_cases h : r.1 = k
    · simp [h, keys]
    · rw [if_neg h, lookR_none]
      simp only [keys, List.map_cons, List.mem_cons, not_or]
      exact ⟨fun h1 => ⟨fun e => h e.symm, h1⟩, fun h1 => h1.2⟩
theorem lookR_some {k : Ky} {d : List Row} (h : k ∈ keys d) : ∃ v, lookR d k = some v := by
  cases e : lookR d k with
  | some v => exact ⟨v, rfl⟩
  | none => exact absurd h (lookR_none.1 e)
theorem lookR_app (a b : List Row) (k : Ky) : lookR (a ++ b) k = if k ∈ keys a then lookR a k else lookR b k := by
  induction a with
  | nil => simp [keys]
  | cons r a ih =>
    have hm : k ∈ keys (r :: a) ↔ k = r.1 ∨ k ∈ keys a := by simp [keys]
    by_cases h : r.1 = k
    · rw [if_pos (hm.2 (.inl h.symm))]
      simp [lookR, h]
    · have h' : ¬ k = r.1 := fun e => h e.symm
      simp only [List.cons_append, lookR]
      rw [if_neg h, if_neg h, ih]
      by_cases hk : k ∈ keys a
      · rw [if_pos hk, if_pos (hm.2 (.inr hk))]
      · rw [if_neg hk, if_neg (fun h2 => (hm.1 h2).elim h' hk)]
theorem keys_app (a b : List Row) : keys (a ++ b) = keys a ++ keys b := by simp [keys]
theorem keys_len (d : List Row) : (keys d).length = d.length := by simp [keys]
theorem keys_take (d : List Row) (i : Nat) : keys (d.take i) = (keys d).take i := by simp [keys, List.map_take]
theorem keys_drop (d : List Row) (i : Nat) : keys (d.drop i) = (keys d).drop i := by simp [keys, List.map_drop]
def putR (d : List Row) (k : Ky) (v : Int) : List Row := d.take (pos (keys d) k) ++ (k, v) :: d.drop (pos (keys d) k)
theorem keys_put (d : List Row) (k : Ky) (v : Int) : keys (putR d k v) = insP (keys d) k := by
  unfold putR insP
  rw [keys_app, keys_take]
  simp [keys, List.map_drop]
theorem put_len (d : List Row) (k : Ky) (v : Int) : (putR d k v).length = d.length + 1 := by
  rw [← keys_len, keys_put, insP_len, keys_len]
theorem lookR_put {d : List Row} {k : Ky} (hk : lookR d k = none) (v : Int) (y : Ky) : lookR (putR d k v) y = if y = k then some v else lookR d y := by
  have hk' := lookR_none.1 hk
  unfold putR
  have e : d = d.take (pos (keys d) k) ++ d.drop (pos (keys d) k) := (List.take_append_drop _ _).symm
  have hnt : k ∉ keys (d.take (pos (keys d) k)) := fun h => hk' (by rw [keys_take] at h; exact List.mem_of_mem_take h)
  rw [lookR_app]
  by_cases hy : y = k
  · subst hy
    rw [if_pos rfl, if_neg hnt]
    simp [lookR]
  · rw [if_neg hy]
    conv => rhs; rw [e, lookR_app]
    have hy' : ¬ k = y := fun e => hy e.symm
    simp [lookR, hy']
def delR (d : List Row) (i : Nat) : List Row := d.take i ++ d.drop (i + 1)
theorem keys_del (d : List Row) (i : Nat) : keys (delR d i) = delP (keys d) i := by
  unfold delR delP
  rw [keys_app, keys_take, keys_drop]
theorem del_len {d : List Row} {i : Nat} (h : i < d.length) : (delR d i).length = d.length - 1 := by unfold delR; simp; omega
theorem lookR_del {d : List Row} {i : Nat} (hd : Str (keys d)) (hi : i < d.length) (y : Ky) : lookR (delR d i) y = if y = (keys d).getD i default then none else lookR d y := by
  have hnd := strR_nodup hd
  have e : d = d.take i ++ d[i] :: d.drop (i + 1) := by rw [List.getElem_cons_drop, List.take_append_drop]
  have hik : (keys d).getD i default = d[i].1 := by simp [keys, List.getD, hi]
  have hkk : keys d = keys (d.take i) ++ d[i].1 :: keys (d.drop (i + 1)) := by
    conv => lhs; rw [e]
    rw [keys_app]; rfl
  rw [hkk, List.nodup_append] at hnd
  obtain ⟨n1, n2, n3⟩ := hnd
  rw [hik]
  unfold delR
  rw [lookR_app]
  by_cases hy : y = d[i].1
  · rw [if_pos hy, if_neg (fun h => n3 y h y (by rw [hy]; simp) rfl)]
    rw [lookR_none, hy]
    exact (List.nodup_cons.1 n2).1
  · rw [if_neg hy]
    conv => rhs; rw [e, lookR_app]
    have hy' : ¬ d[i].1 = y := fun e => hy e.symm
    simp [lookR, hy']
theorem lookR_at {d : List Row} {i : Nat} (hd : Str (keys d)) (hi : i < d.length) : lookR d ((keys d).getD i default) = some d[i].2 := by
  have hnd := strR_nodup hd
  have e : d = d.take i ++ d[i] :: d.drop (i + 1) := by rw [List.getElem_cons_drop, List.take_append_drop]
  have hik : (keys d).getD i default = d[i].1 := by simp [keys, List.getD, hi]
  have hkk : keys d = keys (d.take i) ++ d[i].1 :: keys (d.drop (i + 1)) := by
    conv => lhs; rw [e]
    rw [keys_app]; rfl
  rw [hkk, List.nodup_append] at hnd
  obtain ⟨n1, n2, n3⟩ := hnd
  rw [hik]
  have h2 : lookR (d.take i ++ d[i] :: d.drop (i + 1)) d[i].1 = some d[i].2 := by
    rw [lookR_app, if_neg (fun h => n3 _ h _ (by simp) rfl)]
    simp [lookR]
  rw [← e] at h2
  exact h2
end Go.Proofs.Ytolcidilnmjlmaa.Tbl
