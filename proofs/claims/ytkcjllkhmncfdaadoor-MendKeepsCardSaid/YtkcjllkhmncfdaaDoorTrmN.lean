/- Plain mathematics of layer 24: lists that are near place by place; few that are anything at all. -/
import Derived.Test.YtkcjllkhmncfdaaDoorTrmM
namespace Go.Proofs.YtkcjllkhmncfdaaDoor.Trm
set_option linter.unusedVariables false
set_option linter.unusedSimpArgs false
/-- Place by place no greater. -/
def leL : List Int → List Int → Prop
  | [], [] => True
  | x :: a, y :: b => x ≤ y ∧ leL a b
  | _, _ => False
theorem leL_len : ∀ {a b : List Int}, leL a b → a.length = b.length
  | [], [], _ => rfl
  | x :: a, y :: b, h => by simp [leL_len h.2]
  | [], y :: b, h => h.elim
  | x :: a, [], h => h.elim
theorem leL_snoc : ∀ {a b : List Int} {x y : Int}, leL a b → x ≤ y → leL (a ++ [x]) (b ++ [y])
  | [], [], x, y, _, h => ⟨h, trivial⟩
  | u :: a, v :: b, x, y, h, h' => ⟨h.1, leL_snoc h.2 h'⟩
  | [], v :: b, x, y, h, _ => h.elim
  | u :: a, [], x, y, h, _ => h.elim
theorem leL_drop : ∀ {a b : List Int} (k : Nat), leL a b → leL (a.drop k) (b.drop k)
  | a, b, 0, h => h
  | [], [], k + 1, h => by simp [leL]
  | x :: a, y :: b, k + 1, h => by simpa using leL_drop k h.2
  | [], y :: b, k + 1, h => h.elim
  | x :: a, [], k + 1, h => h.elim
theorem leL_take : ∀ {a b : List Int} (k : Nat), leL a b → leL (a.take k) (b.take k)
  | a, b, 0, h => by simp [leL]
  | [], [], k + 1, h => by simp [leL]
  | x :: a, y :: b, k + 1, h => by simp only [List.take_succ_cons]; exact ⟨h.1, leL_take k h.2⟩
  | [], y :: b, k + 1, h => h.elim
  | x :: a, [], k + 1, h => h.elim
theorem leL_sum : ∀ {a b : List Int}, leL a b → a.sum ≤ b.sum
  | [], [], _ => Int.le_refl _
  | x :: a, y :: b, h => by have := leL_sum h.2; have := h.1; simp only [List.sum_cons]; omega
  | [], y :: b, h => h.elim
  | x :: a, [], h => h.elim
theorem into_head {z : Int} {l : List Int} (h : Up (z :: l)) : into l z = z :: l := by
  induction l with
  | nil => rfl
  | cons y l ih =>
    obtain ⟨h1, h2⟩ := List.pairwise_cons.1 h
    have hy := h1 y List.mem_cons_self
    unfold into
    by_cases hx : z < y
    · rw [if_pos hx]
    · obtain rfl : z = y := by omega
      rw [if_neg hx, ih (List.pairwise_cons.2 ⟨fun v hv => h1 v (List.mem_cons_of_mem _ hv), (List.pairwise_cons.1 h2).2⟩)]
theorem into_le : ∀ (a b : List Int) (x y : Int), Up a → Up b → leL a b → x ≤ y → leL (into a x) (into b y)
  | [], [], x, y, _, _, _, h => ⟨h, trivial⟩
  | u :: a, v :: b, x, y, ha, hb, h, hxy => by
    obtain ⟨a1, a2⟩ := List.pairwise_cons.1 ha
    obtain ⟨b1, b2⟩ := List.pairwise_cons.1 hb
    have huv := h.1
    unfold into
    by_cases hx : x < u
    · by_cases hy : y < v
      · rw [if_pos hx, if_pos hy]; exact ⟨hxy, h⟩
      · rw [if_pos hx, if_neg hy]
        refine ⟨by omega, ?_⟩
        rw [← into_head ha]
        exact into_le a b u y a2 b2 h.2 (by omega)
    · by_cases hy : y < v
      · rw [if_neg hx, if_pos hy]
        refine ⟨by omega, ?_⟩
        rw [← into_head hb]
        exact into_le a b x v a2 b2 h.2 (by omega)
      · rw [if_neg hx, if_neg hy]; exact ⟨huv, into_le a b x y a2 b2 h.2 hxy⟩
  | [], v :: b, x, y, _, _, h, _ => h.elim
  | u :: a, [], x, y, _, _, h, _ => h.elim
theorem ins_le_go : ∀ (zs ys acc acc' : List Int), Up acc → Up acc' → leL acc acc' → leL zs ys → leL (zs.foldl into acc) (ys.foldl into acc')
  | [], [], _, _, _, _, h, _ => h
  | z :: zs, y :: ys, acc, acc', h1, h2, h, h' => ins_le_go zs ys _ _ (into_up h1 z) (into_up h2 y) (into_le acc acc' z y h1 h2 h h'.1) h'.2
  | [], y :: ys, _, _, _, _, _, h => h.elim
  | z :: zs, [], _, _, _, _, _, h => h.elim
theorem srt_le {zs ys : List Int} (h : leL zs ys) : leL (srt zs) (srt ys) := by
  rw [← ins_srt, ← ins_srt]
  exact ins_le_go zs ys [] [] List.Pairwise.nil List.Pairwise.nil trivial h
/-- All by as much greater. -/
def sh (d : Int) (l : List Int) : List Int := l.map (· + d)
theorem into_sh (d : Int) (l : List Int) (x : Int) : into (sh d l) (x + d) = sh d (into l x) := by
  induction l with
  | nil => rfl
  | cons y l ih =>
    simp only [sh, List.map_cons, into] at ih ⊢
    by_cases h : x < y
    · rw [if_pos h, if_pos (by omega)]; rfl
    · rw [if_neg h, if_neg (by omega), ih]; rfl
theorem ins_sh_go (d : Int) : ∀ (zs acc : List Int), (sh d zs).foldl into (sh d acc) = sh d (zs.foldl into acc)
  | [], acc => rfl
  | z :: zs, acc => by
    have e : sh d (z :: zs) = (z + d) :: sh d zs := rfl
    rw [e, List.foldl_cons, List.foldl_cons, into_sh, ins_sh_go d zs]
theorem srt_sh (d : Int) (zs : List Int) : srt (sh d zs) = sh d (srt zs) := by
  rw [← ins_srt, ← ins_srt]
  exact ins_sh_go d zs []
theorem sum_sh (d : Int) (l : List Int) : (sh d l).sum = l.sum + (l.length : Int) * d := by
  induction l with
  | nil => simp [sh]
  | cons x l ih =>
    simp only [sh, List.map_cons, List.sum_cons, List.length_cons, Int.natCast_add, Int.natCast_one, Int.add_mul, Int.one_mul] at ih ⊢
    omega
theorem sh_len (d : Int) (l : List Int) : (sh d l).length = l.length := List.length_map _
/-- Of lists that are near place by place the middles are near. -/
theorem mid_le (f : Int) {zs ys : List Int} {d : Int} (h0 : 0 ≤ d) (h : leL ys (sh d zs)) : midV f ys ≤ midV f zs + d := by
  have hlen : ys.length = zs.length := by rw [leL_len h, sh_len]
  unfold midV
  rw [hlen]
  by_cases hz : zs.length = 0
  · rw [if_pos hz, if_pos hz]; omega
  · rw [if_neg hz, if_neg hz]
    have e := srt_le h
    rw [srt_sh] at e
    have e2 : leL (trm f ys) (sh d (trm f zs)) := by
      unfold trm
      rw [hlen]
      have := leL_take (zs.length - 2 * fa zs.length f) (leL_drop (fa zs.length f) e)
      unfold sh at this ⊢
      rw [List.map_take, List.map_drop]
      exact this
    have hl := leL_len e2
    rw [sh_len] at hl
    have hs := leL_sum e2
    rw [sum_sh] at hs
    have hp : 0 < (trm f zs).length := (trm_pos f zs).2 (by omega)
    unfold mn
    rw [hl]
    have := Int.ediv_le_ediv (show (0 : Int) < ((trm f zs).length : Int) by omega) hs
    rwa [Int.add_mul_ediv_left _ _ (by omega)] at this

theorem up_at {l : List Int} (h : Up l) {i j : Nat} (hij : i ≤ j) (hj : j < l.length) : l[i]'(by omega) ≤ l[j] := by
  by_cases e : i = j
  · subst e; exact Int.le_refl _
  · exact List.pairwise_iff_getElem.1 h i j (by omega) hj (by omega)
/-- Few that are anything at all: what is not left out lies between the others. -/
theorem trm_sound (f : Int) (bad good : List Int) (a b : Int) (hb : bad.length ≤ fa (bad ++ good).length f) (h : ∀ x ∈ good, a ≤ x ∧ x ≤ b) : ∀ x ∈ trm f (bad ++ good), a ≤ x ∧ x ≤ b := by
  intro x hx
  have hP := srt_perm (bad ++ good)
  have hU := srt_up (bad ++ good)
  have hL := srt_len (bad ++ good)
  have hF := fa_bd (bad ++ good).length f
  unfold trm at hx
  obtain ⟨i, hi, rfl⟩ := List.getElem_of_mem hx
  rw [List.length_take, List.length_drop] at hi
  rw [List.getElem_take, List.getElem_drop]
  generalize hn : (bad ++ good).length = n at *
  generalize fa n f = t at *
  generalize srt (bad ++ good) = S at *
  have hti : t + i < S.length := by omega
  have cnt : ∀ p : Int → Bool, (∀ y ∈ good, p y = false) → S.countP p ≤ t := by
    intro p hp
    have hg : good.countP p = 0 := List.countP_eq_zero.2 (fun y hy => by simp [hp y hy])
    rw [hP.countP_eq p, List.countP_append, hg]
    have := List.countP_le_length (p := p) (l := bad)
    omega
  constructor
  · by_cases hlt : a ≤ S[t + i]
    · exact hlt
    · exfalso
      have h1 := cnt (fun y => decide (y < a)) (fun y hy => by have := h y hy; simp; omega)
      have h2 : (S.take (t + i + 1)).countP (fun y => decide (y < a)) = (S.take (t + i + 1)).length := List.countP_eq_length.2 (fun y hy => by
        obtain ⟨j, hj, rfl⟩ := List.getElem_of_mem hy
        rw [List.length_take] at hj
        rw [List.getElem_take]
        have := up_at hU (show j ≤ t + i by omega) hti
        simp only [decide_eq_true_eq]
        omega)
      have h3 := (List.take_sublist (t + i + 1) S).countP_le (p := fun y => decide (y < a))
      rw [List.length_take] at h2
      omega
  · by_cases hlt : S[t + i] ≤ b
    · exact hlt
    · exfalso
      have h1 := cnt (fun y => decide (b < y)) (fun y hy => by have := h y hy; simp; omega)
      have h2 : (S.drop (t + i)).countP (fun y => decide (b < y)) = (S.drop (t + i)).length := List.countP_eq_length.2 (fun y hy => by
        obtain ⟨j, hj, rfl⟩ := List.getElem_of_mem hy
        rw [List.length_drop] at hj
        rw [List.getElem_drop]
        have := up_at hU (show t + i ≤ t + i + j by omega) (show t + i + j < S.length by omega)
        simp only [decide_eq_true_eq]
        omega)
      have h3 := (List.drop_sublist (t + i) S).countP_le (p := fun y => decide (b < y))
      rw [List.length_drop] at h2
      omega
/-- The ends of a sorted list. -/
theorem srt_ends (zs : List Int) {x : Int} (h : x ∈ zs) : (srt zs).getD 0 0 ≤ x ∧ x ≤ (srt zs).getD (zs.length - 1) 0 := by
  have hm := (srt_perm zs).mem_iff.2 h
  have hl := srt_len zs
  obtain ⟨i, hi, rfl⟩ := List.getElem_of_mem hm
  have h1 := up_at (srt_up zs) (show 0 ≤ i by omega) hi
  have h2 := up_at (srt_up zs) (show i ≤ zs.length - 1 by omega) (show zs.length - 1 < (srt zs).length by omega)
  simp only [List.getD_eq_getElem?_getD, List.getElem?_eq_getElem (show 0 < (srt zs).length by omega), List.getElem?_eq_getElem (show zs.length - 1 < (srt zs).length by omega), Option.getD_some]
  exact ⟨h1, h2⟩
theorem trm_ends (f : Int) (zs : List Int) {x : Int} (h : x ∈ trm f zs) : (trm f zs).getD 0 0 ≤ x ∧ x ≤ (trm f zs).getD ((trm f zs).length - 1) 0 := by
  have hu := trm_up f zs
  generalize trm f zs = l at *
  obtain ⟨i, hi, rfl⟩ := List.getElem_of_mem h
  have h1 := up_at hu (show 0 ≤ i by omega) hi
  have h2 := up_at hu (show i ≤ l.length - 1 by omega) (show l.length - 1 < l.length by omega)
  simp only [List.getD_eq_getElem?_getD, List.getElem?_eq_getElem (show 0 < l.length by omega), List.getElem?_eq_getElem (show l.length - 1 < l.length by omega), Option.getD_some]
  exact ⟨h1, h2⟩
theorem mid_between (f : Int) (zs : List Int) (a b : Int) (h0 : 0 < zs.length) (h : ∀ x ∈ trm f zs, a ≤ x ∧ x ≤ b) : a ≤ midV f zs ∧ midV f zs ≤ b := by
  unfold midV
  rw [if_neg (by omega)]
  exact mn_bd _ a b ((trm_pos f zs).2 h0) h
end Go.Proofs.YtkcjllkhmncfdaaDoor.Trm
