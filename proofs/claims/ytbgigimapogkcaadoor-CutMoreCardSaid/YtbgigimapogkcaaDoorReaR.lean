/- Distances bettered till none is (the document's own way, layer 17): plain mathematics. -/
import Derived.Test.YtbgigimapogkcaaDoorReaN
namespace Go.Proofs.YtbgigimapogkcaaDoor.Rea
open Grf (Pr lk lk_comm nearP Ok lk_range)
set_option linter.unusedVariables false
/-- The distances as they stand in pass p, ahead of the pair (a, b). -/
structure Rx (n S : Nat) (L : List Pr) (i p a b : Nat) (d : List Int) (more : Bool) : Prop where
  len : d.length = n
  lo : ∀ x, x < n → -1 ≤ d.getD x 0
  walk : ∀ x, x < n → 0 ≤ d.getD x 0 → wk n S L i (d.getD x 0).toNat x = true
  bnd : ∀ x, x < n → d.getD x 0 ≤ 64 * (p : Int) + a + (if b = 0 then 0 else 1)
  bnda : a < n → d.getD a 0 ≤ 64 * (p : Int) + a
  source : i < n ∧ d.getD i 0 = 0 ∧ hereB n S i = true
  old : ∀ x, x < n → 0 ≤ dst n S L i x → dst n S L i x ≤ p → d.getD x 0 = dst n S L i x
  new : ∀ y x, (y < a ∨ y = a ∧ x < b) → adj n S L y x = true → 0 ≤ dst n S L i y → dst n S L i y ≤ p → dst n S L i x = dst n S L i y + 1 → d.getD x 0 = dst n S L i x
  calm : more = false → ∀ y x, (y < a ∨ y = a ∧ x < b) → adj n S L y x = true → 0 ≤ d.getD y 0 → 0 ≤ d.getD x 0 ∧ d.getD x 0 ≤ d.getD y 0 + 1
  mor : more = true → p + 2 ≤ n
section
variable {n S : Nat} {L : List Pr} {i p a b : Nat} {d : List Int} {more : Bool}
theorem getD_set {d : List Int} {b : Nat} (hb : b < d.length) (v : Int) (x : Nat) : (d.set b v).getD x 0 = if x = b then v else d.getD x 0 := by
  rw [List.getD, List.getElem?_set]
  by_cases h : b = x
  · subst h; simp [hb]
  · have : ¬ x = b := fun e => h e.symm
    simp [h, this, List.getD]
theorem dst_le {k x : Nat} (h : wk n S L i k x = true) : 0 ≤ dst n S L i x ∧ dst n S L i x ≤ (k : Int) := by
  obtain ⟨m, hm, h2⟩ := mind_of h
  rw [dst_some h2]
  omega
/-- Is one further over the link from a? -/
def better (n S : Nat) (L : List Pr) (a b : Nat) (d : List Int) : Prop := 0 ≤ d.getD a 0 ∧ (S.testBit b = false ∧ (lk L (a : Int) (b : Int) = true ∧ (d.getD b 0 < 0 ∨ d.getD a 0 + 1 < d.getD b 0)))
theorem Rx.hit (h : Rx n S L i p a b d more) (ha : a < n) (hb : b < n) (hbt : better n S L a b d) : Rx n S L i p a (b + 1) (d.set b (d.getD a 0 + 1)) true := by
  obtain ⟨h1, h2, h3, h4⟩ := hbt
  have hg := fun x => getD_set (d := d) (b := b) (by rw [h.len]; exact hb) (d.getD a 0 + 1) x
  have hwa := h.walk a ha h1
  have hab : adj n S L a b = true := adj_iff.2 ⟨wk_here hwa, here_iff.2 ⟨hb, h2⟩, h3⟩
  have hwb := wk_succ.2 ⟨a, hwa, hab⟩
  have hdb := dst_le hwb
  have hda := dst_le hwa
  have hne : b ≠ a := by rintro rfl; omega
  have hold : ¬ dst n S L i b ≤ p := fun hle => by have := h.old b hb hdb.1 hle; omega
  refine ⟨by rw [List.length_set]; exact h.len, fun x hx => ?_, fun x hx => ?_, fun x hx => ?_, fun _ => ?_, ?_, fun x hx h5 h6 => ?_, fun y x h5 h6 h7 h8 h9 => ?_, fun h => (by cases h), fun _ => ?_⟩
  · rw [hg]
    split
    · omega
    · exact h.lo x hx
  · rw [hg]
    split
    · rename_i e
      subst e
      intro _
      rw [show (d.getD a 0 + 1).toNat = (d.getD a 0).toNat + 1 by omega]
      exact hwb
    · exact h.walk x hx
  · rw [hg, if_neg (show ¬ b + 1 = 0 by omega)]
    split
    · have := h.bnda ha; omega
    · have := h.bnd x hx
      split at this <;> omega
  · rw [hg, if_neg (Ne.symm hne)]
    exact h.bnda ha
  · have hs := h.source
    refine ⟨hs.1, ?_, hs.2.2⟩
    rw [hg, if_neg (by rintro rfl; omega)]
    exact hs.2.1
  · rw [hg, if_neg (by rintro rfl; exact hold h6)]
    exact h.old x hx h5 h6
  · rw [hg]
    split
    · rename_i e
      subst e
      have hadp : dst n S L i a = dst n S L i y ∨ ¬ y = a := by
        by_cases e : y = a
        · exact .inl (by rw [e])
        · exact .inr e
      rcases hadp with e | e
      · have := h.old a ha hda.1 (by omega)
        omega
      · have hprev := h.new y x (by omega) h6 h7 h8 h9
        have := hdb
        omega
    · rename_i e
      exact h.new y x (by omega) h6 h7 h8 h9
  · have := dst_hi (n := n) (S := S) (L := L) i b hdb.1
    omega
theorem Rx.miss (h : Rx n S L i p a b d more) (ha : a < n) (hb : b < n) (hbt : ¬ better n S L a b d) : Rx n S L i p a (b + 1) d more := by
  have hkey : adj n S L a b = true → 0 ≤ d.getD a 0 → 0 ≤ d.getD b 0 ∧ d.getD b 0 ≤ d.getD a 0 + 1 := fun hab h0 => by
    have hab' := adj_iff.1 hab
    have hbb := (here_iff.1 hab'.2.1).2
    by_cases hc : 0 ≤ d.getD b 0 ∧ d.getD b 0 ≤ d.getD a 0 + 1
    · exact hc
    · exact absurd ⟨h0, hbb, hab'.2.2, by omega⟩ hbt
  refine ⟨h.len, h.lo, h.walk, fun x hx => ?_, h.bnda, h.source, h.old, fun y x h5 h6 h7 h8 h9 => ?_, fun hm y x h5 h6 h7 => ?_, h.mor⟩
  · have := h.bnd x hx
    rw [if_neg (by omega)]
    split at this <;> omega
  · by_cases e : y = a ∧ x = b
    · obtain ⟨rfl, rfl⟩ := e
      have e1 := h.old y ha h7 h8
      have e2 := hkey h6 (by omega)
      have e3 := dst_le (h.walk x hb e2.1)
      omega
    · exact h.new y x (by omega) h6 h7 h8 h9
  · by_cases e : y = a ∧ x = b
    · obtain ⟨rfl, rfl⟩ := e
      exact hkey h6 h7
    · exact h.calm hm y x (by omega) h6 h7
theorem Rx.row (h : Rx n S L i p a n d more) : Rx n S L i p (a + 1) 0 d more := by
  refine ⟨h.len, h.lo, h.walk, fun x hx => ?_, fun hx => ?_, h.source, h.old, fun y x h5 h6 => h.new y x ?_ h6, fun hm y x h5 h6 => h.calm hm y x ?_ h6, h.mor⟩
  · have := h.bnd x hx
    rw [if_pos rfl]
    split at this <;> omega
  · have := h.bnd _ hx
    split at this <;> omega
  · have := here_lt (adj_iff.1 h6).2.1; omega
  · have := here_lt (adj_iff.1 h6).2.1; omega
theorem Rx.pass (hn : n ≤ 64) (h : Rx n S L i p n 0 d more) : Rx n S L i (p + 1) 0 0 d false := by
  refine ⟨h.len, h.lo, h.walk, fun x hx => ?_, fun hx => ?_, h.source, fun x hx h5 h6 => ?_, fun y x h5 => by omega, fun _ y x h5 => by omega, fun h => (by cases h)⟩
  · have := h.bnd x hx
    simp at this ⊢
    omega
  · have := h.bnd 0 hx
    simp at this ⊢
    omega
  · by_cases hle : dst n S L i x ≤ p
    · exact h.old x hx h5 hle
    · have he : dst n S L i x = ((p + 1 : Nat) : Int) := by omega
      obtain ⟨y, h1, h2⟩ := mind_prev (dst_iff.1 he)
      have hy := dst_some h1
      exact h.new y x (.inl (here_lt (adj_iff.1 h2).1)) h2 (by omega) (by omega) (by omega)
theorem Rx.done (h : Rx n S L i p n 0 d false) : d = dstL n S L i := by
  have key : ∀ k x, mind n S L i k x → 0 ≤ d.getD x 0 ∧ d.getD x 0 ≤ (k : Int) := by
    intro k
    induction k with
    | zero =>
      intro x hx
      obtain ⟨rfl, _⟩ := wk_zero.1 hx.1
      have := h.source
      omega
    | succ k ih =>
      intro x hx
      obtain ⟨y, h1, h2⟩ := mind_prev hx
      have h3 := ih y h1
      have := h.calm rfl y x (.inl (here_lt (adj_iff.1 h2).1)) h2 h3.1
      omega
  apply List.ext_getElem?
  intro x
  by_cases hx : x < n
  · have hxl : x < d.length := by rw [h.len]; exact hx
    have e1 : d.getD x 0 = d[x] := by simp [List.getD, hxl]
    rw [List.getElem?_eq_getElem hxl, ← e1]
    simp only [dstL, List.getElem?_map, List.getElem?_range hx, Option.map_some, Option.some.injEq]
    rcases dst_cases (n := n) (S := S) (L := L) i x with ⟨h1, h2⟩ | ⟨k, h1, h2, _⟩
    · rw [h1]
      have := h.lo x hx
      by_cases h0 : 0 ≤ d.getD x 0
      · have := h.walk x hx h0
        rw [h2] at this
        cases this
      · omega
    · have h3 := key k x h2
      have h4 := dst_le (h.walk x hx h3.1)
      omega
  · rw [List.getElem?_eq_none (by rw [h.len]; omega), List.getElem?_eq_none (by rw [dst_len]; omega)]
theorem Rx.start (hi : hereB n S i = true) : Rx n S L i 0 0 0 ((List.replicate n (-1)).set i 0) false := by
  have hin := here_lt hi
  have hg := fun x => getD_set (d := List.replicate n (-1)) (b := i) (by rw [List.length_replicate]; exact hin) 0 x
  have hr : ∀ x, x < n → (List.replicate n (-1 : Int)).getD x 0 = -1 := fun x hx => by simp [List.getD, hx]
  refine ⟨by simp, fun x hx => ?_, fun x hx => ?_, fun x hx => ?_, fun hx => ?_, ⟨hin, by rw [hg, if_pos rfl], hi⟩, fun x hx h5 h6 => ?_, fun y x h5 => by omega, fun _ y x h5 => by omega, fun h => (by cases h)⟩
  · rw [hg]
    split
    · omega
    · rw [hr x hx]; omega
  · rw [hg]
    split
    · rename_i e
      subst e
      intro _
      exact wk_zero.2 ⟨rfl, hi⟩
    · rw [hr x hx]; omega
  · rw [hg]
    split
    · simp
    · rw [hr x hx]; simp
  · rw [hg]
    split
    · simp
    · rw [hr _ hx]; simp
  · have e : dst n S L i x = 0 := by omega
    obtain ⟨rfl, _⟩ := dst_zero.1 e
    rw [hg, if_pos rfl, e]
theorem Rx.small (hn : n ≤ 64) (h : Rx n S L i p a b d more) (hp : p ≤ n) (ha : a ≤ n) (x : Nat) (hx : x < n) : -1 ≤ d.getD x 0 ∧ d.getD x 0 ≤ 10000 := by
  have h1 := h.lo x hx
  have h2 := h.bnd x hx
  split at h2 <;> omega
theorem dst_off (hi : hereB n S i = false) : dstL n S L i = List.replicate n (-1) := by
  apply List.ext_getElem?
  intro x
  by_cases hx : x < n
  · simp only [dstL, List.getElem?_map, List.getElem?_range hx, Option.map_some, List.getElem?_replicate, if_pos hx, Option.some.injEq]
    refine dst_none fun k => ?_
    cases hk : wk n S L i k x with
    | false => rfl
    | true => have := wk_src hk; rw [hi] at this; cases this
  · rw [List.getElem?_eq_none (by rw [dst_len]; omega), List.getElem?_eq_none (by simp; omega)]
end
end Go.Proofs.YtbgigimapogkcaaDoor.Rea
