/- Numbers in sevens of bits, and numbers of a width, as bytes and back: plain mathematics. -/
namespace Go.Proofs.Ytepcbklokcfbfaa.BufM
/-- A number in sevens. -/
def sev (x : Nat) : List UInt8 := if h : x < 128 then [UInt8.ofNat x] else UInt8.ofNat (x % 128 + 128) :: sev (x / 128)
termination_by x
decreasing_by omega
theorem sev_small {x : Nat} (h : x < 128) : sev x = [UInt8.ofNat x] := by rw [sev, dif_pos h]
theorem sev_big {x : Nat} (h : 128 ≤ x) : sev x = UInt8.ofNat (x % 128 + 128) :: sev (x / 128) := by rw [sev, dif_neg (by omega)]
theorem toNat_of {x : Nat} (h : x < 256) : (UInt8.ofNat x).toNat = x := by rw [UInt8.toNat_ofNat']; omega
/-- What bytes in sevens say. -/
def sevN : List UInt8 → Nat
  | [] => 0
  | b :: l => b.toNat % 128 + 128 * sevN l
/-- How many bytes at the head have 128 more. -/
def lead : List UInt8 → Nat
  | [] => 0
  | b :: l => if 128 ≤ b.toNat then lead l + 1 else 0
theorem lead_le : ∀ l : List UInt8, lead l ≤ l.length
  | [] => Nat.le_refl _
  | b :: l => by have := lead_le l; unfold lead; split <;> simp <;> omega
theorem lead_ge : ∀ (l : List UInt8) (k : Nat), k < lead l → 128 ≤ (l.getD k 0).toNat
  | [], k, h => by simp [lead] at h
  | b :: l, 0, h => by unfold lead at h; split at h; · simpa using ‹_›
                       · omega
  | b :: l, k + 1, h => by
    unfold lead at h
    split at h
    · have := lead_ge l k (by omega); simpa using this
    · omega
theorem lead_at : ∀ l : List UInt8, lead l < l.length → (l.getD (lead l) 0).toNat < 128
  | [], h => by simp at h
  | b :: l, h => by
    unfold lead at h ⊢
    by_cases hb : 128 ≤ b.toNat
    · rw [if_pos hb] at h ⊢
      have := lead_at l (by simp at h; omega)
      simpa using this
    · rw [if_neg hb]; simpa using hb
theorem lead_step {l : List UInt8} {k : Nat} (h : k ≤ lead l) (hk : k < l.length) (hb : 128 ≤ (l.getD k 0).toNat) : k + 1 ≤ lead l := by
  by_cases e : k = lead l
  · subst e; have := lead_at l hk; omega
  · omega
theorem lead_stop {l : List UInt8} {k : Nat} (h : k ≤ lead l) (hb : (l.getD k 0).toNat < 128) : lead l = k := by
  by_cases e : k < lead l
  · have := lead_ge l k e; omega
  · omega
/-- A number in sevens is read: the number, what is left, what is wrong. -/
def getN (l : List UInt8) : Nat × List UInt8 × Nat :=
  if 10 ≤ lead l then (0, [], 5)
  else if lead l = l.length then (0, [], 3)
  else if (0 < lead l ∧ (l.getD (lead l) 0).toNat = 0) ∨ (lead l = 9 ∧ 1 < (l.getD (lead l) 0).toNat) then (0, [], 5)
  else (sevN (l.take (lead l + 1)), l.drop (lead l + 1), 0)
theorem sevN_snoc : ∀ (l : List UInt8) (b : UInt8), sevN (l ++ [b]) = sevN l + b.toNat % 128 * 128 ^ l.length
  | [], b => by simp [sevN]
  | c :: l, b => by
    have := sevN_snoc l b
    simp only [List.cons_append, sevN, this, List.length_cons, Nat.pow_succ]
    rw [Nat.mul_add, Nat.add_assoc]
    congr 2
    rw [Nat.mul_comm (128 ^ l.length) 128, ← Nat.mul_assoc, ← Nat.mul_assoc, Nat.mul_comm 128]
theorem sevN_lt : ∀ l : List UInt8, sevN l < 128 ^ l.length
  | [] => by simp [sevN]
  | b :: l => by
    have := sevN_lt l
    simp only [sevN, List.length_cons, Nat.pow_succ]
    have h2 := Nat.mod_lt b.toNat (show 0 < 128 by omega)
    omega
theorem sevN_sev (x : Nat) : sevN (sev x) = x := by
  induction x using Nat.strongRecOn with
  | ind x ih =>
    by_cases h : x < 128
    · rw [sev_small h]; simp [sevN]; omega
    · rw [sev_big (by omega), sevN, ih _ (by omega), toNat_of (by omega)]; omega
theorem sev_pos (x : Nat) : 1 ≤ (sev x).length := by
  by_cases h : x < 128
  · rw [sev_small h]; simp
  · rw [sev_big (by omega)]; simp
theorem sev_len : ∀ (k x : Nat), x < 128 ^ (k + 1) → (sev x).length ≤ k + 1
  | 0, x, h => by rw [sev_small (by simpa using h)]; simp
  | k + 1, x, h => by
    by_cases hx : x < 128
    · rw [sev_small hx]; simp
    · rw [sev_big (by omega)]
      have := sev_len k (x / 128) (by rw [Nat.pow_succ] at h; exact Nat.div_lt_of_lt_mul (by rw [Nat.mul_comm]; exact h))
      simpa using this
theorem sev_ten {x : Nat} (h : x < 18446744073709551616) : (sev x).length ≤ 10 := sev_len 9 x (by omega)
/-- The uppermost seven bits. -/
theorem sev_top (x : Nat) : ∃ t : UInt8, (∀ r, (sev x ++ r).getD ((sev x).length - 1) 0 = t) ∧ t.toNat < 128 ∧ (128 ≤ x → 1 ≤ t.toNat) ∧ (1 ≤ x → 1 ≤ t.toNat) ∧ t.toNat * 128 ^ ((sev x).length - 1) ≤ x := by
  induction x using Nat.strongRecOn with
  | ind x ih =>
    by_cases h : x < 128
    · rw [sev_small h]
      refine ⟨UInt8.ofNat x, fun r => by simp, by rw [toNat_of (by omega)]; exact h, by omega, by rw [toNat_of (by omega)]; omega, ?_⟩
      rw [toNat_of (by omega)]; simp
    · obtain ⟨t, h1, h2, h3, h4, h5⟩ := ih (x / 128) (by omega)
      rw [sev_big (by omega)]
      have hp := sev_pos (x / 128)
      refine ⟨t, fun r => ?_, h2, fun _ => h4 (by omega), fun _ => h4 (by omega), ?_⟩
      · rw [List.cons_append, List.length_cons, Nat.add_sub_cancel]
        have := h1 r
        obtain ⟨m, hm⟩ : ∃ m, (sev (x / 128)).length = m + 1 := ⟨(sev (x / 128)).length - 1, by omega⟩
        rw [hm] at this ⊢
        simpa using this
      · rw [List.length_cons, Nat.add_sub_cancel]
        obtain ⟨m, hm⟩ : ∃ m, (sev (x / 128)).length = m + 1 := ⟨(sev (x / 128)).length - 1, by omega⟩
        rw [hm] at h5 ⊢
        rw [Nat.add_sub_cancel] at h5
        rw [Nat.pow_succ, ← Nat.mul_assoc]
        generalize t.toNat * 128 ^ m = y at *
        omega
theorem lead_sev (x : Nat) (r : List UInt8) : lead (sev x ++ r) = (sev x).length - 1 := by
  induction x using Nat.strongRecOn with
  | ind x ih =>
    by_cases h : x < 128
    · rw [sev_small h]; simp [lead]; omega
    · rw [sev_big (by omega), List.cons_append, lead, toNat_of (by omega), if_pos (by omega), ih _ (by omega)]
      have := sev_pos (x / 128)
      simp; omega
/-- What was written is read. -/
theorem getN_sev (x : Nat) (hx : x < 18446744073709551616) (r : List UInt8) : getN (sev x ++ r) = (x, r, 0) := by
  have h10 := sev_ten hx
  have h1 := sev_pos x
  obtain ⟨t, g1, g2, g3, g4, g5⟩ := sev_top x
  have g1 := g1 r
  unfold getN
  rw [lead_sev, g1, if_neg (by omega), if_neg (by rw [List.length_append]; omega), if_neg]
  · rw [show (sev x).length - 1 + 1 = (sev x).length from by omega, List.take_left, List.drop_left, sevN_sev]
  · rintro (⟨p1, p2⟩ | ⟨p1, p2⟩)
    · by_cases hs : x < 128
      · rw [sev_small hs] at p1; simp at p1
      · have := g3 (by omega); omega
    · rw [p1] at g5
      have : 2 * 128 ^ 9 ≤ t.toNat * 128 ^ 9 := Nat.mul_le_mul_right _ (by omega)
      omega
/-- Bytes in sevens, the last one not none. -/
theorem sev_of_form : ∀ l : List UInt8, l ≠ [] → (∀ j, j + 1 < l.length → 128 ≤ (l.getD j 0).toNat) → 0 < (l.getD (l.length - 1) 0).toNat → (l.getD (l.length - 1) 0).toNat < 128 → 1 ≤ sevN l ∧ sev (sevN l) = l
  | [], h, _, _, _ => absurd rfl h
  | [b], _, _, h3, h4 => by
    simp at h3 h4
    have e : b.toNat % 128 = b.toNat := Nat.mod_eq_of_lt h4
    refine ⟨by simp [sevN, e]; omega, ?_⟩
    rw [show sevN [b] = b.toNat from by simp [sevN, e], sev_small h4]
    simp
  | b :: c :: l, _, h2, h3, h4 => by
    obtain ⟨i1, i2⟩ := sev_of_form (c :: l) (by simp) (fun j hj => by have := h2 (j + 1) (by simp at hj ⊢; omega); simpa using this) (by simpa using h3) (by simpa using h4)
    have hb : 128 ≤ b.toNat := by have := h2 0 (by simp); simpa using this
    have hb2 := b.toNat_lt
    have e : sevN (b :: c :: l) = b.toNat % 128 + 128 * sevN (c :: l) := rfl
    refine ⟨by omega, ?_⟩
    rw [e, sev_big (by omega), show (b.toNat % 128 + 128 * sevN (c :: l)) / 128 = sevN (c :: l) from by omega, i2, show (b.toNat % 128 + 128 * sevN (c :: l)) % 128 + 128 = b.toNat from by omega]
    simp
theorem getD_take {l : List UInt8} {j n : Nat} (h : j < n) : (l.take n).getD j 0 = l.getD j 0 := by
  simp [List.getD, h]
/-- What is read as a number is written so. -/
theorem sev_getN {l : List UInt8} {x : Nat} {r : List UInt8} (h : getN l = (x, r, 0)) : l = sev x ++ r ∧ x < 18446744073709551616 := by
  unfold getN at h
  have hle := lead_le l
  split at h
  · simp at h
  split at h
  · simp at h
  split at h
  · simp at h
  · rename_i h1 h2 h3
    simp only [Prod.mk.injEq, and_true] at h
    obtain ⟨rfl, rfl⟩ := h
    have hat := lead_at l (by omega)
    generalize hn : lead l = n at *
    have hl : (l.take (n + 1)).length = n + 1 := by rw [List.length_take]; omega
    have hlt : sevN (l.take (n + 1)) < 18446744073709551616 := by
      by_cases e : n = 9
      · subst e
        have h9 : l.take 10 = l.take 9 ++ [l.getD 9 0] := by
          rw [List.take_succ_eq_append_getElem (by omega)]; simp [show 9 < l.length by omega]
        rw [h9, sevN_snoc]
        have := sevN_lt (l.take 9)
        rw [show (l.take 9).length = 9 from by rw [List.length_take]; omega] at this ⊢
        have hd : (l.getD 9 0).toNat ≤ 1 := by omega
        have hm : (l.getD 9 0).toNat % 128 ≤ 1 := by omega
        have := Nat.mul_le_mul_right (128 ^ 9) hm
        omega
      · have := sevN_lt (l.take (n + 1))
        rw [hl] at this
        have h8 : 128 ^ (n + 1) ≤ 128 ^ 9 := Nat.pow_le_pow_right (by omega) (by omega)
        omega
    refine ⟨?_, hlt⟩
    by_cases h0 : (l.getD n 0).toNat = 0
    · obtain rfl : n = 0 := by omega
      match l, hl, h0 with
      | b :: l, _, h0 =>
        have hb : b = 0 := UInt8.toNat_inj.1 (by simpa using h0)
        subst hb
        simp [sevN, sev_small (show 0 < 128 by omega)]
    · have hf := sev_of_form (l.take (n + 1)) (by intro e; rw [e] at hl; simp at hl) (fun j hj => by rw [hl] at hj; rw [getD_take (by omega)]; exact lead_ge l j (by omega)) (by rw [hl, Nat.add_sub_cancel, getD_take (by omega)]; omega) (by rw [hl, Nat.add_sub_cancel, getD_take (by omega)]; exact hat)
      rw [hf.2, List.take_append_drop]
theorem getN_err {l : List UInt8} {x e : Nat} {r : List UInt8} (h : getN l = (x, r, e)) : e = 0 ∨ (x = 0 ∧ r = [] ∧ (e = 3 ∨ e = 5)) := by
  unfold getN at h
  split at h
  · simp only [Prod.mk.injEq] at h; obtain ⟨rfl, rfl, rfl⟩ := h; simp
  split at h
  · simp only [Prod.mk.injEq] at h; obtain ⟨rfl, rfl, rfl⟩ := h; simp
  split at h
  · simp only [Prod.mk.injEq] at h; obtain ⟨rfl, rfl, rfl⟩ := h; simp
  · simp only [Prod.mk.injEq] at h; omega
theorem getN_nil : getN [] = (0, [], 3) := by simp [getN, lead]

/-- A number's lowest bytes, the lowest first. -/
def fixB : Nat → Nat → List UInt8
  | _, 0 => []
  | x, n + 1 => UInt8.ofNat (x % 256) :: fixB (x / 256) n
def fixN : List UInt8 → Nat
  | [] => 0
  | b :: l => b.toNat + 256 * fixN l
theorem fixB_len : ∀ (n x : Nat), (fixB x n).length = n
  | 0, x => rfl
  | n + 1, x => by rw [fixB, List.length_cons, fixB_len n]
theorem fixN_fixB : ∀ (n x : Nat), fixN (fixB x n) = x % 256 ^ n
  | 0, x => by simp [fixB, fixN, Nat.mod_one]
  | n + 1, x => by
    rw [fixB, fixN, fixN_fixB n, toNat_of (Nat.mod_lt _ (by omega)), Nat.pow_succ, Nat.mul_comm (256 ^ n) 256, Nat.mod_mul]
theorem fixN_lt : ∀ l : List UInt8, fixN l < 256 ^ l.length
  | [] => by simp [fixN]
  | b :: l => by
    have := fixN_lt l
    have hb := b.toNat_lt
    rw [fixN, List.length_cons, Nat.pow_succ]
    omega
theorem fixN_lt8 {l : List UInt8} (h : l.length ≤ 8) : fixN l < 18446744073709551616 :=
  Nat.lt_of_lt_of_le (fixN_lt l) (Nat.le_trans (Nat.pow_le_pow_right (by omega) h) (by omega))
theorem fixB_snoc : ∀ (n x : Nat), fixB x (n + 1) = fixB x n ++ [UInt8.ofNat (x / 256 ^ n % 256)]
  | 0, x => by simp [fixB]
  | n + 1, x => by
    rw [fixB, fixB_snoc n, fixB, List.cons_append, Nat.div_div_eq_div_mul, Nat.pow_succ, Nat.mul_comm (256 ^ n)]
theorem fixB_take : ∀ (m n x : Nat), n ≤ m → (fixB x m).take n = fixB x n
  | _, 0, x, _ => by simp [fixB]
  | 0, n + 1, x, h => by omega
  | m + 1, n + 1, x, h => by rw [fixB, fixB, List.take_succ_cons, fixB_take m n _ (by omega)]
/-- A number of a width is read. -/
def getF (l : List UInt8) (n : Int) : Nat × List UInt8 × Nat :=
  if n < 1 ∨ 8 < n then (0, [], 1)
  else if (l.length : Int) < n then (0, [], 3)
  else (fixN (l.take n.toNat), l.drop n.toNat, 0)
theorem getF_fix (x : Nat) (n : Int) (h1 : 1 ≤ n) (h2 : n ≤ 8) (r : List UInt8) : getF (fixB x n.toNat ++ r) n = (x % 256 ^ n.toNat, r, 0) := by
  have hl := fixB_len n.toNat x
  unfold getF
  rw [if_neg (by omega), if_neg (by rw [List.length_append, hl]; omega), List.take_left' hl, List.drop_left' hl, fixN_fixB]
theorem getF_err {l : List UInt8} {n : Int} {x e : Nat} {r : List UInt8} (h : getF l n = (x, r, e)) : x < 18446744073709551616 ∧ (e = 0 ∨ (x = 0 ∧ r = [] ∧ (e = 1 ∨ e = 3))) := by
  unfold getF at h
  split at h
  · simp only [Prod.mk.injEq] at h; obtain ⟨rfl, rfl, rfl⟩ := h; simp
  split at h
  · simp only [Prod.mk.injEq] at h; obtain ⟨rfl, rfl, rfl⟩ := h; simp
  · simp only [Prod.mk.injEq] at h; obtain ⟨rfl, rfl, rfl⟩ := h
    exact ⟨fixN_lt8 (by rw [List.length_take]; omega), .inl rfl⟩
/-- A length and bytes are read. -/
def getB (l : List UInt8) (most : Int) : List UInt8 × List UInt8 × Nat :=
  if (getN l).2.2 ≠ 0 then ([], [], (getN l).2.2)
  else if most < 0 ∨ most < ((getN l).1 : Int) then ([], [], 4)
  else if (getN l).2.1.length < (getN l).1 then ([], [], 3)
  else ((getN l).2.1.take (getN l).1, (getN l).2.1.drop (getN l).1, 0)
theorem getB_bytes (b : List UInt8) (hb : b.length ≤ 200) (r : List UInt8) : getB (sev b.length ++ b ++ r) 200 = (b, r, 0) := by
  unfold getB
  rw [List.append_assoc, getN_sev _ (by omega)]
  simp only []
  rw [if_neg (by simp), if_neg (by omega), if_neg (by rw [List.length_append]; omega), List.take_left, List.drop_left]
theorem getB_err {l : List UInt8} {most : Int} {t r : List UInt8} {e : Nat} (h : getB l most = (t, r, e)) : e = 0 ∨ (t = [] ∧ r = []) := by
  unfold getB at h
  split at h
  · simp only [Prod.mk.injEq] at h; obtain ⟨rfl, rfl, rfl⟩ := h; simp
  split at h
  · simp only [Prod.mk.injEq] at h; obtain ⟨rfl, rfl, rfl⟩ := h; simp
  split at h
  · simp only [Prod.mk.injEq] at h; obtain ⟨rfl, rfl, rfl⟩ := h; simp
  · simp only [Prod.mk.injEq] at h; exact .inl h.2.2.symm
end Go.Proofs.Ytepcbklokcfbfaa.BufM
