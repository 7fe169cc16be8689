/- Plain mathematics of layer 24: sorted lists of numbers, those at both ends left out, their mean. -/
import Derived.Test.YtkcjllkhmncfdaaDoorRows
import Derived.Lib.Hide
namespace Go.Proofs.YtkcjllkhmncfdaaDoor.Trm
set_option linter.unusedVariables false
set_option linter.unusedSimpArgs false

/-- All of them, rising. -/
def srt (zs : List Int) : List Int := zs.mergeSort (fun x y => decide (x ≤ y))
def Up (l : List Int) : Prop := l.Pairwise (· ≤ ·)
theorem srt_perm (zs : List Int) : (srt zs).Perm zs := List.mergeSort_perm _ _
theorem srt_len (zs : List Int) : (srt zs).length = zs.length := (srt_perm zs).length_eq
theorem srt_up (zs : List Int) : Up (srt zs) := by
  have h := List.pairwise_mergeSort (le := fun x y : Int => decide (x ≤ y)) (fun a b c h1 h2 => by simp at h1 h2 ⊢; omega) (fun a b => by simp; omega) zs
  exact h.imp (fun h => of_decide_eq_true h)
theorem up_one {a b : List Int} (ha : Up a) (hb : Up b) (h : a.Perm b) : a = b :=
  List.Perm.eq_of_pairwise (le := fun x y : Int => x ≤ y) (fun x y _ _ h1 h2 => by omega) ha hb h
theorem srt_of_perm {a b : List Int} (h : a.Perm b) : srt a = srt b := up_one (srt_up a) (srt_up b) ((srt_perm a).trans (h.trans (srt_perm b).symm))

/-- A rising list with one more. -/
def into : List Int → Int → List Int
  | [], x => [x]
  | y :: l, x => if x < y then x :: y :: l else y :: into l x
theorem into_perm (l : List Int) (x : Int) : (into l x).Perm (x :: l) := by
  induction l with
  | nil => exact List.Perm.refl _
  | cons y l ih =>
    unfold into
    by_cases h : x < y
    · rw [if_pos h]
    · rw [if_neg h]
      exact (List.Perm.cons y ih).trans (List.Perm.swap x y l)
theorem into_len (l : List Int) (x : Int) : (into l x).length = l.length + 1 := by rw [(into_perm l x).length_eq]; rfl
theorem into_up {l : List Int} (h : Up l) (x : Int) : Up (into l x) := by
  induction l with
  | nil => exact List.pairwise_singleton _ _
  | cons y l ih =>
    obtain ⟨h1, h2⟩ := List.pairwise_cons.1 h
    unfold into
    by_cases hx : x < y
    · rw [if_pos hx]
      refine List.pairwise_cons.2 ⟨fun z hz => ?_, h⟩
      rcases List.mem_cons.1 hz with rfl | hz
      · omega
      · have := h1 z hz; omega
    · rw [if_neg hx]
      refine List.pairwise_cons.2 ⟨fun z hz => ?_, ih h2⟩
      rcases List.mem_cons.1 ((into_perm l x).mem_iff.1 hz) with rfl | hz
      · omega
      · exact h1 z hz
/-- The document's way: one after another. -/
def ins (zs : List Int) : List Int := zs.foldl into []
theorem ins_go (zs : List Int) : ∀ acc, Up acc → Up (zs.foldl into acc) ∧ (zs.foldl into acc).Perm (acc ++ zs) := by
  induction zs with
  | nil => intro acc h; exact ⟨h, by simp⟩
  | cons z zs ih =>
    intro acc h
    obtain ⟨h1, h2⟩ := ih (into acc z) (into_up h z)
    refine ⟨h1, h2.trans ?_⟩
    exact ((into_perm acc z).append_right zs).trans (by simpa using (List.perm_middle (a := z) (l₁ := acc) (l₂ := zs)).symm)
theorem ins_srt (zs : List Int) : ins zs = srt zs := by
  obtain ⟨h1, h2⟩ := ins_go zs [] List.Pairwise.nil
  exact up_one h1 (srt_up zs) (h2.trans (srt_perm zs).symm)
theorem ins_snoc (zs : List Int) (z : Int) : ins (zs ++ [z]) = into (ins zs) z := by unfold ins; rw [List.foldl_append]; rfl
theorem ins_up (zs : List Int) : Up (ins zs) := (ins_go zs [] List.Pairwise.nil).1

/-- The document's loop of Into: what is laid so far, and whether x is in it. -/
def inB (l : List Int) (x : Int) : Bool := l.any (fun y => decide (x < y))
def soFar (l : List Int) (x : Int) : List Int := if inB l x = true then into l x else l
theorem into_in {l : List Int} {x y : Int} (h : inB l x = true) : into (l ++ [y]) x = into l x ++ [y] := by
  induction l with
  | nil => simp [inB] at h
  | cons z l ih =>
    by_cases hx : x < z
    · simp [into, hx]
    · have : inB l x = true := by simpa [inB, hx] using h
      simp [into, hx, ih this]
theorem into_no {l : List Int} {x : Int} (h : inB l x = false) : into l x = l ++ [x] := by
  induction l with
  | nil => rfl
  | cons z l ih =>
    have hh : ¬ x < z ∧ inB l x = false := by simpa [inB] using h
    simp [into, hh.1, ih hh.2]
theorem into_now {l : List Int} {x y : Int} (h : inB l x = false) (hy : x < y) : into (l ++ [y]) x = l ++ [x] ++ [y] := by
  induction l with
  | nil => simp [into, hy]
  | cons z l ih =>
    have hh : ¬ x < z ∧ inB l x = false := by simpa [inB] using h
    simp only [List.cons_append, into, hh.1, if_false, ih hh.2]
theorem inB_snoc (l : List Int) (x y : Int) : inB (l ++ [y]) x = (inB l x || decide (x < y)) := by simp [inB]
theorem soFar_in {l : List Int} {x y : Int} (h : inB l x = true) : soFar (l ++ [y]) x = soFar l x ++ [y] := by
  unfold soFar; rw [inB_snoc, h, Bool.true_or, if_pos rfl, if_pos rfl, into_in h]
theorem soFar_now {l : List Int} {x y : Int} (h : inB l x = false) (hy : x < y) : soFar (l ++ [y]) x = soFar l x ++ [x] ++ [y] := by
  unfold soFar; rw [inB_snoc, h, Bool.false_or, decide_eq_true hy, if_pos rfl, if_neg (by simp), into_now h hy]
theorem soFar_no {l : List Int} {x y : Int} (h : inB l x = false) (hy : ¬ x < y) : soFar (l ++ [y]) x = soFar l x ++ [y] := by
  unfold soFar; rw [inB_snoc, h, Bool.false_or, decide_eq_false hy, if_neg (by simp), if_neg (by simp)]
theorem soFar_end (l : List Int) (x : Int) : (if inB l x = true then soFar l x else soFar l x ++ [x]) = into l x := by
  unfold soFar
  by_cases h : inB l x = true
  · rw [if_pos h, if_pos h]
  · rw [if_neg h, if_neg h]
    rw [into_no (by simpa using h)]
theorem soFar_len (l : List Int) (x : Int) : (soFar l x).length ≤ l.length + 1 := by
  unfold soFar
  by_cases h : inB l x = true
  · rw [if_pos h, into_len]; omega
  · rw [if_neg h]; omega

/-- How many are left out at each end. -/
def fa (n : Nat) (f : Int) : Nat := if n < 1 ∨ f < 1 then 0 else min f.toNat ((n - 1) / 2)
theorem fa_bd (n : Nat) (f : Int) : n = 0 ∧ fa n f = 0 ∨ 2 * fa n f < n := by
  unfold fa
  by_cases h : n < 1 ∨ f < 1
  · rw [if_pos h]; omega
  · rw [if_neg h]; omega
/-- Those that are not left out. -/
def trm (f : Int) (zs : List Int) : List Int := ((srt zs).drop (fa zs.length f)).take (zs.length - 2 * fa zs.length f)
theorem trm_len (f : Int) (zs : List Int) : (trm f zs).length = zs.length - 2 * fa zs.length f := by
  unfold trm
  rw [List.length_take, List.length_drop, srt_len]
  have := fa_bd zs.length f
  omega
theorem trm_pos (f : Int) (zs : List Int) : 0 < (trm f zs).length ↔ 0 < zs.length := by
  rw [trm_len]
  have := fa_bd zs.length f
  omega
theorem trm_up (f : Int) (zs : List Int) : Up (trm f zs) := by
  unfold trm
  exact List.Pairwise.sublist ((List.take_sublist _ _).trans (List.drop_sublist _ _)) (srt_up zs)
theorem trm_mem (f : Int) (zs : List Int) {x : Int} (h : x ∈ trm f zs) : x ∈ zs := by
  unfold trm at h
  exact (srt_perm zs).mem_iff.1 (List.mem_of_mem_drop (List.mem_of_mem_take h))
/-- Their mean, rounded down. -/
def mn (l : List Int) : Int := l.sum / (l.length : Int)
def midV (f : Int) (zs : List Int) : Int := if zs.length = 0 then 0 else mn (trm f zs)
def midB (zs : List Int) : Bool := decide (0 < zs.length)

/-- Sums of what lies between two numbers. -/
theorem sum_bd (l : List Int) (a b : Int) (h : ∀ x ∈ l, a ≤ x ∧ x ≤ b) : (l.length : Int) * a ≤ l.sum ∧ l.sum ≤ (l.length : Int) * b := by
  induction l with
  | nil => simp
  | cons x l ih =>
    obtain ⟨h1, h2⟩ := ih (fun y hy => h y (List.mem_cons_of_mem _ hy))
    obtain ⟨h3, h4⟩ := h x List.mem_cons_self
    simp only [List.sum_cons, List.length_cons, Int.natCast_add, Int.natCast_one, Int.add_mul, Int.one_mul]
    omega
theorem mn_bd (l : List Int) (a b : Int) (hl : 0 < l.length) (h : ∀ x ∈ l, a ≤ x ∧ x ≤ b) : a ≤ mn l ∧ mn l ≤ b := by
  obtain ⟨h1, h2⟩ := sum_bd l a b h
  unfold mn
  have hn : (0 : Int) < (l.length : Int) := by omega
  constructor
  · exact (Int.le_ediv_iff_mul_le hn).2 (by rw [Int.mul_comm]; exact h1)
  · have := (Int.ediv_le_ediv hn h2)
    rwa [Int.mul_ediv_cancel_left _ (by omega)] at this

/-- A mean of quotients and rests. -/
def qs (l : List Int) (n : Int) : Int := (l.map (·.tdiv n)).sum
def rs (l : List Int) (n : Int) : Int := (l.map (·.tmod n)).sum
theorem qs_snoc (l : List Int) (x n : Int) : qs (l ++ [x]) n = qs l n + x.tdiv n := by simp [qs]
theorem rs_snoc (l : List Int) (x n : Int) : rs (l ++ [x]) n = rs l n + x.tmod n := by simp [rs]
theorem qs_rs (l : List Int) (n : Int) : n * qs l n + rs l n = l.sum := by
  induction l with
  | nil => simp [qs, rs]
  | cons x l ih =>
    have hx := Int.mul_tdiv_add_tmod x n
    simp only [qs, rs, List.map_cons, List.sum_cons, Int.mul_add] at ih ⊢
    omega
theorem tdiv_bd {x n : Int} (hn : 0 < n) (hx : -9223372036854775808 ≤ x ∧ x ≤ 9223372036854775807) : -(9223372036854775808 / n) ≤ x.tdiv n ∧ x.tdiv n ≤ 9223372036854775807 / n := by
  by_cases h : 0 ≤ x
  · rw [Int.tdiv_eq_ediv_of_nonneg h]
    have h0 : 0 ≤ x / n := Int.ediv_nonneg h (by omega)
    have h1 : (0 : Int) ≤ 9223372036854775808 / n := Int.ediv_nonneg (by omega) (by omega)
    exact ⟨by omega, Int.ediv_le_ediv hn hx.2⟩
  · have e : x.tdiv n = -((-x) / n) := by
      rw [← Int.tdiv_eq_ediv_of_nonneg (show 0 ≤ -x by omega), Int.neg_tdiv]; omega
    rw [e]
    have h0 : 0 ≤ -x / n := Int.ediv_nonneg (by omega) (by omega)
    have h1 : (0 : Int) ≤ 9223372036854775807 / n := Int.ediv_nonneg (by omega) (by omega)
    have h2 := Int.ediv_le_ediv hn (show -x ≤ 9223372036854775808 by omega)
    omega
theorem qs_bd (l : List Int) (n : Nat) (hl : l.length ≤ n) (hn : 0 < n) (h : ∀ x ∈ l, -9223372036854775808 ≤ x ∧ x ≤ 9223372036854775807) : -9223372036854775808 ≤ qs l n ∧ qs l n ≤ 9223372036854775807 := by
  have hn' : (0 : Int) < (n : Int) := by omega
  obtain ⟨h1, h2⟩ := sum_bd (l.map (·.tdiv (n : Int))) (-(9223372036854775808 / (n : Int))) (9223372036854775807 / (n : Int)) (fun x hx => by
    obtain ⟨y, hy, rfl⟩ := List.mem_map.1 hx
    exact tdiv_bd hn' (h y hy))
  rw [List.length_map] at h1 h2
  have k1 : (l.length : Int) * (9223372036854775808 / (n : Int)) ≤ (n : Int) * (9223372036854775808 / (n : Int)) :=
    Int.mul_le_mul_of_nonneg_right (by omega) (Int.ediv_nonneg (by omega) (by omega))
  have k2 : (l.length : Int) * (9223372036854775807 / (n : Int)) ≤ (n : Int) * (9223372036854775807 / (n : Int)) :=
    Int.mul_le_mul_of_nonneg_right (by omega) (Int.ediv_nonneg (by omega) (by omega))
  have k3 := Int.mul_ediv_self_le (x := 9223372036854775808) (k := (n : Int)) (by omega)
  have k4 := Int.mul_ediv_self_le (x := 9223372036854775807) (k := (n : Int)) (by omega)
  rw [Int.mul_neg] at h1
  unfold qs
  omega
theorem rs_bd (l : List Int) (n : Nat) (hl : l.length ≤ n) (hn : 0 < n) (hm : n ≤ 1000) : -1000000 ≤ rs l n ∧ rs l n ≤ 1000000 := by
  obtain ⟨h1, h2⟩ := sum_bd (l.map (·.tmod (n : Int))) (-1000) 1000 (fun x hx => by
    obtain ⟨y, hy, rfl⟩ := List.mem_map.1 hx
    have a1 := Int.tmod_lt_of_pos y (show (0 : Int) < (n : Int) by omega)
    have a2 := Int.lt_tmod_of_pos y (show (0 : Int) < (n : Int) by omega)
    omega)
  rw [List.length_map] at h1 h2
  unfold rs
  omega
theorem mn_qs (l : List Int) (n : Nat) (hl : l.length = n) (hn : 0 < n) : qs l n + rs l n / (n : Int) = mn l := by
  have h := qs_rs l n
  unfold mn
  rw [hl, ← h, Int.add_comm, Int.add_comm (_ * _), Int.add_mul_ediv_left _ _ (by omega)]
/-- A quotient rounded down, of one rounded towards 0. -/
theorem down_of {x n : Int} (hn : 0 < n) : (if x.tmod n < 0 then x.tdiv n - 1 else x.tdiv n) = x / n := by
  have h1 := Int.mul_tdiv_add_tmod x n
  have h2 := Int.tmod_lt_of_pos x hn
  have h3 := Int.lt_tmod_of_pos x hn
  by_cases h : x.tmod n < 0
  · rw [if_pos h]
    have e : x = (x.tmod n + n) + n * (x.tdiv n - 1) := by rw [Int.mul_sub]; omega
    conv => rhs; rw [e]
    rw [Int.add_mul_ediv_left _ _ (by omega), Int.ediv_eq_zero_of_lt (by omega) (by omega)]
    omega
  · rw [if_neg h]
    conv => rhs; rw [← h1]
    rw [Int.add_comm, Int.add_mul_ediv_left _ _ (by omega), Int.ediv_eq_zero_of_lt (by omega) h2]
    omega

/-- The document's own mean: by how often 2^32 goes into each, and what is left. -/
def hs (l : List Int) : Int := (l.map (· / 4294967296)).sum
def ls (l : List Int) : Int := (l.map (fun x => x - x / 4294967296 * 4294967296)).sum
theorem hs_snoc (l : List Int) (x : Int) : hs (l ++ [x]) = hs l + x / 4294967296 := by simp [hs]
theorem ls_snoc (l : List Int) (x : Int) : ls (l ++ [x]) = ls l + (x - x / 4294967296 * 4294967296) := by simp [ls]
theorem hs_ls (l : List Int) : hs l * 4294967296 + ls l = l.sum := by
  induction l with
  | nil => simp [hs, ls]
  | cons x l ih =>
    simp only [hs, ls, List.map_cons, List.sum_cons] at ih ⊢
    omega
theorem hs_bd (l : List Int) (hl : l.length ≤ 1000) (h : ∀ x ∈ l, -9223372036854775808 ≤ x ∧ x ≤ 9223372036854775807) : -(2147483648 * (l.length : Int)) ≤ hs l ∧ hs l ≤ 2147483647 * (l.length : Int) := by
  obtain ⟨h1, h2⟩ := sum_bd (l.map (· / 4294967296)) (-2147483648) 2147483647 (fun x hx => by
    obtain ⟨y, hy, rfl⟩ := List.mem_map.1 hx
    have := h y hy
    show -2147483648 ≤ y / 4294967296 ∧ y / 4294967296 ≤ 2147483647
    omega)
  rw [List.length_map] at h1 h2
  unfold hs
  omega
theorem ls_bd (l : List Int) (hl : l.length ≤ 1000) : 0 ≤ ls l ∧ ls l ≤ 4294967295 * (l.length : Int) := by
  obtain ⟨h1, h2⟩ := sum_bd (l.map (fun x => x - x / 4294967296 * 4294967296)) 0 4294967295 (fun x hx => by
    obtain ⟨y, hy, rfl⟩ := List.mem_map.1 hx
    show 0 ≤ y - y / 4294967296 * 4294967296 ∧ y - y / 4294967296 * 4294967296 ≤ 4294967295
    omega)
  rw [List.length_map] at h1 h2
  unfold ls
  omega
theorem mn_hs (l : List Int) (n : Int) (hn : (l.length : Int) = n) (h0 : 0 < n) : hs l / n * 4294967296 + ((hs l - hs l / n * n) * 4294967296 + ls l) / n = mn l := by
  have h := hs_ls l
  unfold mn
  rw [hn, ← h]
  generalize hs l = H
  generalize ls l = L
  have e : H * 4294967296 + L = ((H - H / n * n) * 4294967296 + L) + n * (H / n * 4294967296) := by
    rw [Int.sub_mul, Int.mul_comm (H / n) n, Int.mul_assoc n]
    omega
  rw [e, Int.add_mul_ediv_left _ _ (by omega)]
  omega
end Go.Proofs.YtkcjllkhmncfdaaDoor.Trm
