/- Clocks set right by one another (layer 27), plain: what a list tells, the readings of a clock, what all tell behind a turn, how far they are apart, and how near. -/
import Derived.Test.YtkcjllkhmncfdaaDoorTrmN
import Derived.Test.YtkcjllkhmncfdaaDoorNodesM
namespace Go.Proofs.YtkcjllkhmncfdaaDoor.Mnd
open Trm (midV trm trm_mem trm_len mid_between mid_le leL sh srt srt_sh srt_len mn fa sum_sh sh_len)
open Nodes (mem allN mem_mem mem_le bit_setP)
set_option linter.unusedVariables false
/-- A number kept. -/
def kp (x : Int) : Int := min (max x (-1099511627776)) 1099511627776
theorem kp_bd (x : Int) : -1099511627776 ≤ kp x ∧ kp x ≤ 1099511627776 := by unfold kp; omega
theorem kp_is {x : Int} (h1 : -1099511627776 ≤ x) (h2 : x ≤ 1099511627776) : kp x = x := by unfold kp; omega
/-- What stands at a place of a list, kept. -/
def tld (l : List Int) (k : Nat) : Int := if k < l.length then kp (l.getD k 0) else 0
theorem tld_bd (l : List Int) (k : Nat) : -1099511627776 ≤ tld l k ∧ tld l k ≤ 1099511627776 := by
  unfold tld
  by_cases h : k < l.length
  · rw [if_pos h]; exact kp_bd _
  · rw [if_neg h]; omega
theorem tld_in {l : List Int} {a b : Int} (h : ∀ x ∈ l, a ≤ x ∧ x ≤ b) (h0 : a ≤ 0 ∧ 0 ≤ b) (ha : -1099511627776 ≤ a) (hb : b ≤ 1099511627776) (k : Nat) : a ≤ tld l k ∧ tld l k ≤ b := by
  unfold tld
  by_cases hk : k < l.length
  · rw [if_pos hk]
    have hm : l.getD k 0 ∈ l := by
      have e : l.getD k 0 = l[k] := by simp [List.getD, hk]
      rw [e]; exact List.getElem_mem hk
    obtain ⟨h1, h2⟩ := h _ hm
    rw [kp_is (by omega) (by omega)]
    exact ⟨h1, h2⟩
  · rw [if_neg hk]; exact h0
theorem tld_at {l : List Int} {k : Nat} (hk : k < l.length) (h1 : -1099511627776 ≤ l.getD k 0) (h2 : l.getD k 0 ≤ 1099511627776) : tld l k = l.getD k 0 := by
  unfold tld; rw [if_pos hk, kp_is h1 h2]
/-- By how much clock p reads clock q to be ahead of it. -/
def rdg (c err : List Int) (p q : Nat) : Int := tld c q - tld c p + tld err q
theorem rdg_bd (c err : List Int) (p q : Nat) : -3298534883328 ≤ rdg c err p q ∧ rdg c err p q ≤ 3298534883328 := by
  have h1 := tld_bd c q
  have h2 := tld_bd c p
  have h3 := tld_bd err q
  unfold rdg; omega
def rdgs (c err : List Int) (p : Nat) (who : List Nat) : List Int := who.map (rdg c err p)
theorem rdgs_len (c err : List Int) (p : Nat) (who : List Nat) : (rdgs c err p who).length = who.length := List.length_map _
theorem rdgs_snoc (c err : List Int) (p : Nat) {who : List Nat} {k : Nat} (hk : k < who.length) : rdgs c err p (who.take k) ++ [rdg c err p (who.getD k 0)] = rdgs c err p (who.take (k + 1)) := by
  unfold rdgs
  rw [List.take_add_one, List.map_append]
  simp [List.getD, hk]
/-- The clocks of a set. -/
def whoL (S n : Nat) : List Nat := mem (S &&& allN n)
theorem who_le (S n : Nat) : (whoL S n).length ≤ 64 := mem_le _
theorem who_mem {S n j : Nat} : j ∈ whoL S n ↔ j < 64 ∧ S.testBit j = true ∧ j < n := by
  unfold whoL
  rw [mem_mem, Nat.testBit_and]
  unfold allN
  rw [bit_setP]
  simp only [Bool.and_eq_true, decide_eq_true_eq]
  constructor
  · rintro ⟨h1, h2, h3, h4⟩
    exact ⟨h1, h2, by omega⟩
  · rintro ⟨h1, h2, h3⟩
    exact ⟨h1, h2, h1, by omega⟩
/-- A row of some, if there is one. -/
def rowN (rs : List (List Int)) (p : Nat) : List Int := rs.getD p []
/-- What clock p tells behind a turn. -/
def oneAt (c : List Int) (S : Nat) (rs : List (List Int)) (ds : List Int) (f : Int) (p : Nat) : Int :=
  tld c p + midV f (rdgs c (rowN rs p) p (whoL S c.length)) + tld ds p
theorem mid_bd (f : Int) (zs : List Int) (a b : Int) (h0 : a ≤ 0 ∧ 0 ≤ b) (h : ∀ x ∈ zs, a ≤ x ∧ x ≤ b) : a ≤ midV f zs ∧ midV f zs ≤ b := by
  by_cases hz : 0 < zs.length
  · exact mid_between f zs a b hz (fun x hx => h x (trm_mem f zs hx))
  · have : midV f zs = 0 := by unfold midV; rw [if_pos (by omega)]
    rw [this]; exact h0
theorem mid_rdgs (c err : List Int) (p : Nat) (who : List Nat) (f : Int) : -3298534883328 ≤ midV f (rdgs c err p who) ∧ midV f (rdgs c err p who) ≤ 3298534883328 :=
  mid_bd f _ _ _ (by omega) (fun x hx => by
    obtain ⟨q, _, rfl⟩ := List.mem_map.1 hx
    exact rdg_bd c err p q)
theorem rdgs_64 (c err : List Int) (p : Nat) (who : List Nat) : ∀ x ∈ rdgs c err p who, -9223372036854775808 ≤ x ∧ x ≤ 9223372036854775807 := fun x hx => by
  obtain ⟨q, _, rfl⟩ := List.mem_map.1 hx
  have := rdg_bd c err p q
  omega
def oneL (c : List Int) (S : Nat) (rs : List (List Int)) (ds : List Int) (f : Int) : List Int := (List.range c.length).map (oneAt c S rs ds f)
theorem oneL_len (c : List Int) (S : Nat) (rs : List (List Int)) (ds : List Int) (f : Int) : (oneL c S rs ds f).length = c.length := by simp [oneL]
/-- The first k of them; the rest is 0. -/
def oneK (c : List Int) (S : Nat) (rs : List (List Int)) (ds : List Int) (f : Int) (k : Nat) : List Int := (List.range c.length).map (fun p => if p < k then oneAt c S rs ds f p else 0)
theorem oneK_len (c : List Int) (S : Nat) (rs : List (List Int)) (ds : List Int) (f : Int) (k : Nat) : (oneK c S rs ds f k).length = c.length := by simp [oneK]
theorem oneK_zero (c : List Int) (S : Nat) (rs : List (List Int)) (ds : List Int) (f : Int) : oneK c S rs ds f 0 = List.replicate c.length 0 := by
  unfold oneK
  apply List.ext_getElem?
  intro j
  by_cases hj : j < c.length <;> simp [hj]
theorem oneK_all (c : List Int) (S : Nat) (rs : List (List Int)) (ds : List Int) (f : Int) : oneK c S rs ds f c.length = oneL c S rs ds f := by
  unfold oneK oneL
  apply List.map_congr_left
  intro p hp
  rw [if_pos (List.mem_range.1 hp)]
theorem oneK_step (c : List Int) (S : Nat) (rs : List (List Int)) (ds : List Int) (f : Int) {k : Nat} (hk : k < c.length) : (oneK c S rs ds f k).set k (oneAt c S rs ds f k) = oneK c S rs ds f (k + 1) := by
  unfold oneK
  apply List.ext_getElem?
  intro j
  rw [List.getElem?_set]
  by_cases hj : k = j
  · subst hj
    simp [hk]
  · rw [if_neg hj]
    by_cases hjc : j < c.length
    · simp only [List.getElem?_map, List.getElem?_range hjc, Option.map_some]
      by_cases h : j < k
      · rw [if_pos h, if_pos (by omega)]
      · rw [if_neg h, if_neg (by omega)]
    · simp [hjc]
/-! How far they are apart. -/
def loW (c : List Int) (who : List Nat) (k : Nat) : Int := (who.take k).foldl (fun a p => min a (tld c p)) (tld c (who.getD 0 0))
def hiW (c : List Int) (who : List Nat) (k : Nat) : Int := (who.take k).foldl (fun a p => max a (tld c p)) (tld c (who.getD 0 0))
theorem loW_zero (c : List Int) (who : List Nat) : loW c who 0 = tld c (who.getD 0 0) := by simp [loW]
theorem hiW_zero (c : List Int) (who : List Nat) : hiW c who 0 = tld c (who.getD 0 0) := by simp [hiW]
theorem loW_succ (c : List Int) {who : List Nat} {k : Nat} (hk : k < who.length) : min (loW c who k) (tld c (who.getD k 0)) = loW c who (k + 1) := by
  unfold loW
  rw [List.take_add_one, List.foldl_append]
  simp [List.getD, hk]
theorem hiW_succ (c : List Int) {who : List Nat} {k : Nat} (hk : k < who.length) : max (hiW c who k) (tld c (who.getD k 0)) = hiW c who (k + 1) := by
  unfold hiW
  rw [List.take_add_one, List.foldl_append]
  simp [List.getD, hk]
theorem loW_mem (c : List Int) {who : List Nat} (h0 : 0 < who.length) : ∀ k, k ≤ who.length → ∃ q ∈ who, loW c who k = tld c q
  | 0, _ => ⟨who.getD 0 0, by
      have e : who.getD 0 0 = who[0] := by simp [List.getD, h0]
      rw [e]; exact List.getElem_mem h0, loW_zero c who⟩
  | k + 1, hk => by
    obtain ⟨q, hq, e⟩ := loW_mem c h0 k (by omega)
    rw [← loW_succ c (show k < who.length by omega), e]
    by_cases h : tld c q ≤ tld c (who.getD k 0)
    · exact ⟨q, hq, by omega⟩
    · refine ⟨who.getD k 0, ?_, by omega⟩
      have e : who.getD k 0 = who[k] := by simp [List.getD, show k < who.length by omega]
      rw [e]; exact List.getElem_mem _
theorem hiW_mem (c : List Int) {who : List Nat} (h0 : 0 < who.length) : ∀ k, k ≤ who.length → ∃ q ∈ who, hiW c who k = tld c q
  | 0, _ => ⟨who.getD 0 0, by
      have e : who.getD 0 0 = who[0] := by simp [List.getD, h0]
      rw [e]; exact List.getElem_mem h0, hiW_zero c who⟩
  | k + 1, hk => by
    obtain ⟨q, hq, e⟩ := hiW_mem c h0 k (by omega)
    rw [← hiW_succ c (show k < who.length by omega), e]
    by_cases h : tld c (who.getD k 0) ≤ tld c q
    · exact ⟨q, hq, by omega⟩
    · refine ⟨who.getD k 0, ?_, by omega⟩
      have e : who.getD k 0 = who[k] := by simp [List.getD, show k < who.length by omega]
      rw [e]; exact List.getElem_mem _
theorem loW_bd (c : List Int) (who : List Nat) (k : Nat) (hk : k ≤ who.length) (h0 : 0 < who.length) : -1099511627776 ≤ loW c who k ∧ loW c who k ≤ 1099511627776 := by
  obtain ⟨q, _, e⟩ := loW_mem c h0 k hk
  rw [e]; exact tld_bd c q
theorem hiW_bd (c : List Int) (who : List Nat) (k : Nat) (hk : k ≤ who.length) (h0 : 0 < who.length) : -1099511627776 ≤ hiW c who k ∧ hiW c who k ≤ 1099511627776 := by
  obtain ⟨q, _, e⟩ := hiW_mem c h0 k hk
  rw [e]; exact tld_bd c q
def sprV (c : List Int) (who : List Nat) : Int := if 0 < who.length then hiW c who who.length - loW c who who.length else 0
def sprB (who : List Nat) : Bool := decide (0 < who.length)
theorem spr_le (c : List Int) (who : List Nat) (B : Int) (h0 : 0 ≤ B) (h : ∀ p ∈ who, ∀ q ∈ who, tld c p - tld c q ≤ B) : sprV c who ≤ B := by
  unfold sprV
  by_cases hw : 0 < who.length
  · rw [if_pos hw]
    obtain ⟨p, hp, e1⟩ := hiW_mem c hw who.length (Nat.le_refl _)
    obtain ⟨q, hq, e2⟩ := loW_mem c hw who.length (Nat.le_refl _)
    rw [e1, e2]; exact h p hp q hq
  · rw [if_neg hw]; exact h0
/-! The middle of numbers that are all further by as much is further by as much. -/
theorem mid_sh (f : Int) (zs : List Int) (d : Int) (h0 : 0 < zs.length) : midV f (sh d zs) = midV f zs + d := by
  have hl : (sh d zs).length = zs.length := sh_len d zs
  have ht : trm f (sh d zs) = sh d (trm f zs) := by
    unfold trm
    rw [hl, srt_sh]
    unfold sh
    rw [List.map_take, List.map_drop]
  unfold midV
  rw [if_neg (by omega), if_neg (by omega), ht]
  unfold mn
  have hp := (Trm.trm_pos f zs).2 h0
  rw [sum_sh, sh_len]
  have hn : ((trm f zs).length : Int) ≠ 0 := by omega
  rw [Int.add_mul_ediv_left _ _ hn]
/-! How near they are. -/
section
variable {c : List Int} {S : Nat} {rs : List (List Int)} {ds : List Int} {f E D : Int}
/-- What a clock tells, but for its drift, is the middle of what the others tell, but for the errors. -/
theorem one_is {p : Nat} (hw : 0 < (whoL S c.length).length) : oneAt c S rs ds f p = midV f ((whoL S c.length).map (fun q => tld c q + tld (rowN rs p) q)) + tld ds p := by
  have e : (whoL S c.length).map (fun q => tld c q + tld (rowN rs p) q) = sh (tld c p) (rdgs c (rowN rs p) p (whoL S c.length)) := by
    unfold sh rdgs
    rw [List.map_map]
    apply List.map_congr_left
    intro q _
    unfold rdg
    show tld c q + tld (rowN rs p) q = tld c q - tld c p + tld (rowN rs p) q + tld c p
    omega
  rw [e, mid_sh _ _ _ (by rw [rdgs_len]; exact hw)]
  unfold oneAt
  omega
theorem leL_map (A : List Nat) (g h : Nat → Int) (d : Int) (hh : ∀ q ∈ A, g q ≤ h q + d) : leL (A.map g) (sh d (A.map h)) := by
  induction A with
  | nil => trivial
  | cons a A ih => exact ⟨hh a (by simp), ih (fun q hq => hh q (by simp [hq]))⟩
/-- Any two are apart by twice both bounds at most. -/
theorem one_near (hE : 0 ≤ E ∧ E ≤ 1099511627776) (hD : 0 ≤ D ∧ D ≤ 1099511627776) (he : ∀ r ∈ rs, ∀ x ∈ r, -E ≤ x ∧ x ≤ E) (hd : ∀ x ∈ ds, -D ≤ x ∧ x ≤ D) (hw : 0 < (whoL S c.length).length) (p q : Nat) :
    oneAt c S rs ds f p - oneAt c S rs ds f q ≤ 2 * E + 2 * D := by
  have hr : ∀ p k, -E ≤ tld (rowN rs p) k ∧ tld (rowN rs p) k ≤ E := fun p k => by
    by_cases hp : p < rs.length
    · have hm : rowN rs p ∈ rs := by
        have e : rowN rs p = rs[p] := by simp [rowN, List.getD, hp]
        rw [e]; exact List.getElem_mem hp
      exact tld_in (he _ hm) (by omega) (by omega) (by omega) k
    · have e : rowN rs p = [] := by simp [rowN, List.getD, hp]
      rw [e]
      simp only [tld, List.length_nil, Nat.not_lt_zero, if_false]
      omega
  have h1 := tld_in hd (by omega) (by omega) (by omega) p
  have h2 := tld_in hd (by omega) (by omega) (by omega) q
  have h3 := mid_le f (d := 2 * E) (by omega) (leL_map (whoL S c.length) (fun k => tld c k + tld (rowN rs p) k) (fun k => tld c k + tld (rowN rs q) k) (2 * E) (fun k _ => by
    have a1 := hr p k
    have a2 := hr q k
    omega))
  rw [one_is hw, one_is hw]
  omega
/-- Each is between the least and the greatest of the set's, but for the bounds. -/
theorem one_within {lo hi : Int} (hE : 0 ≤ E ∧ E ≤ 1099511627776) (hD : 0 ≤ D ∧ D ≤ 1099511627776) (he : ∀ r ∈ rs, ∀ x ∈ r, -E ≤ x ∧ x ≤ E) (hd : ∀ x ∈ ds, -D ≤ x ∧ x ≤ D) (hw : 0 < (whoL S c.length).length)
    (hc : ∀ q ∈ whoL S c.length, lo ≤ tld c q ∧ tld c q ≤ hi) (p : Nat) : lo - (E + D) ≤ oneAt c S rs ds f p ∧ oneAt c S rs ds f p ≤ hi + (E + D) := by
  have hr : ∀ k, -E ≤ tld (rowN rs p) k ∧ tld (rowN rs p) k ≤ E := fun k => by
    by_cases hp : p < rs.length
    · have hm : rowN rs p ∈ rs := by
        have e : rowN rs p = rs[p] := by simp [rowN, List.getD, hp]
        rw [e]; exact List.getElem_mem hp
      exact tld_in (he _ hm) (by omega) (by omega) (by omega) k
    · have e : rowN rs p = [] := by simp [rowN, List.getD, hp]
      rw [e]
      simp only [tld, List.length_nil, Nat.not_lt_zero, if_false]
      omega
  have h1 := tld_in hd (by omega) (by omega) (by omega) p
  have h3 := mid_between f ((whoL S c.length).map (fun q => tld c q + tld (rowN rs p) q)) (lo - E) (hi + E) (by rw [List.length_map]; exact hw) (fun x hx => by
    obtain ⟨q, hq, rfl⟩ := List.mem_map.1 (trm_mem f _ hx)
    have := hc q hq
    have := hr q
    omega)
  rw [one_is hw]
  omega
/-- How great a clock may become. -/
theorem one_bd (c : List Int) (S : Nat) (rs : List (List Int)) (ds : List Int) (f : Int) (p : Nat) : -5497558138880 ≤ oneAt c S rs ds f p ∧ oneAt c S rs ds f p ≤ 5497558138880 := by
  have h1 := tld_bd c p
  have h2 := tld_bd ds p
  have h3 := mid_rdgs c (rowN rs p) p (whoL S c.length) f
  unfold oneAt
  omega
end
end Go.Proofs.YtkcjllkhmncfdaaDoor.Mnd
