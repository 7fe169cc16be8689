/- BufM BufU BufA BufB BufC BufD BufE BufF BufG BufH BufI, laid into one. -/
import Derived.Test.YtanfnhgaooafeaaGreatDoorRows
import Derived.WalkKit
import Derived.WalkLawsBesides
import Derived.WalkSpells
import Derived.ProofKit
import Derived.Handy
import Derived.Lib.Hide
import Derived.Below
import Derived.Test.YtanfnhgaooafeaaGreatDoorBitsA
import Derived.Test.YtanfnhgaooafeaaGreatDoorBytA
import Derived.Laws.Rows
import Derived.Deep.WholeRow
import Derived.Deep.QuietTactic
import Derived.BigQuiet
import Derived.IntWalk
import Derived.StillTailTactics
import Derived.Laws.CopyOwn
import Derived.Deep.RegionHeld3
import Derived.Deep.RegionHeldLaw
/-! BufM -/
/- Numbers in sevens of bits, and numbers of a width, as bytes and back: plain mathematics. -/
namespace Go.Proofs.YtanfnhgaooafeaaGreatDoor.BufM
/-- A number in sevens. -/
def sev (x : Nat) : List UInt8 := if h : x < 128 then [UInt8.ofNat x] else UInt8.ofNat (x % 128 + 128) :: sev (x / 128)
termination_by x
decreasing_by omega
theorem sev_small {x : Nat} (h : x < 128) : sev x = [UInt8.ofNat x] := by rw [sev, dif_pos h]
theorem sev_big {x : Nat} (h : 128 ≤ x) : sev x = UInt8.ofNat (x % 128 + 128) :: sev (x / 128) := by rw [sev, dif_neg (by omega)]
theorem toNat_of {x : Nat} (h : x < 256) : (UInt8.ofNat x).toNat = x := by rw [UInt8.toNat_ofNat']; omega
/-- What bytes in sevens say. -/
def sevN : List UInt8 → Nat
  | [] => 0
  | b :: l => b.toNat % 128 + 128 * sevN l
/-- How many bytes at the head have 128 more. -/
def lead : List UInt8 → Nat
  | [] => 0
  | b :: l => if 128 ≤ b.toNat then lead l + 1 else 0
theorem lead_le : ∀ l : List UInt8, lead l ≤ l.length
  | [] => Nat.le_refl _
  | b :: l => by have := lead_le l; unfold lead; split <;> simp <;> omega
theorem lead_ge : ∀ (l : List UInt8) (k : Nat), k < lead l → 128 ≤ (l.getD k 0).toNat
  | [], k, h => by simp [lead] at h
  | b :: l, 0, h => by unfold lead at h; split at h; · simpa using ‹_›
                       · omega
  | b :: l, k + 1, h => by
    unfold lead at h
    split at h
    · have := lead_ge l k (by omega); simpa using this
    · omega
theorem lead_at : ∀ l : List UInt8, lead l < l.length → (l.getD (lead l) 0).toNat < 128
  | [], h => by simp at h
  | b :: l, h => by
    unfold lead at h ⊢
    by_cases hb : 128 ≤ b.toNat
    · rw [if_pos hb] at h ⊢
      have := lead_at l (by simp at h; omega)
      simpa using this
    · rw [if_neg hb]; simpa using hb
theorem lead_step {l : List UInt8} {k : Nat} (h : k ≤ lead l) (hk : k < l.length) (hb : 128 ≤ (l.getD k 0).toNat) : k + 1 ≤ lead l := by
  by_cases e : k = lead l
  · subst e; have := lead_at l hk; omega
  · omega
theorem lead_stop {l : List UInt8} {k : Nat} (h : k ≤ lead l) (hb : (l.getD k 0).toNat < 128) : lead l = k := by
  by_cases e : k < lead l
  · have := lead_ge l k e; omega
  · omega
/-- A number in sevens is read: the number, what is left, what is wrong. -/
def getN (l : List UInt8) : Nat × List UInt8 × Nat :=
  if 10 ≤ lead l then (0, [], 5)
  else if lead l = l.length then (0, [], 3)
  else if (0 < lead l ∧ (l.getD (lead l) 0).toNat = 0) ∨ (lead l = 9 ∧ 1 < (l.getD (lead l) 0).toNat) then (0, [], 5)
  else (sevN (l.take (lead l + 1)), l.drop (lead l + 1), 0)
theorem sevN_snoc : ∀ (l : List UInt8) (b : UInt8), sevN (l ++ [b]) = sevN l + b.toNat % 128 * 128 ^ l.length
  | [], b => by simp [sevN]
  | c :: l, b => by
    have := sevN_snoc l b
    simp only [List.cons_append, sevN, this, List.length_cons, Nat.pow_succ]
    rw [Nat.mul_add, Nat.add_assoc]
    congr 2
    rw [Nat.mul_comm (128 ^ l.length) 128, ← Nat.mul_assoc, ← Nat.mul_assoc, Nat.mul_comm 128]
theorem sevN_lt : ∀ l : List UInt8, sevN l < 128 ^ l.length
  | [] => by simp [sevN]
  | b :: l => by
    have := sevN_lt l
    simp only [sevN, List.length_cons, Nat.pow_succ]
    have h2 := Nat.mod_lt b.toNat (show 0 < 128 by omega)
    omega
theorem sevN_sev (x : Nat) : sevN (sev x) = x := by
  induction x using Nat.strongRecOn with
  | ind x ih =>
    by_cases h : x < 128
    · rw [sev_small h]; simp [sevN]; omega
    · rw [sev_big (by omega), sevN, ih _ (by omega), toNat_of (by omega)]; omega
theorem sev_pos (x : Nat) : 1 ≤ (sev x).length := by
  by_cases h : x < 128
  · rw [sev_small h]; simp
  · rw [sev_big (by omega)]; simp
theorem sev_len : ∀ (k x : Nat), x < 128 ^ (k + 1) → (sev x).length ≤ k + 1
  | 0, x, h => by rw [sev_small (by simpa using h)]; simp
  | k + 1, x, h => by
    by_cases hx : x < 128
    · rw [sev_small hx]; simp
    · rw [sev_big (by omega)]
      have := sev_len k (x / 128) (by rw [Nat.pow_succ] at h; exact Nat.div_lt_of_lt_mul (by rw [Nat.mul_comm]; exact h))
      simpa using this
theorem sev_ten {x : Nat} (h : x < 18446744073709551616) : (sev x).length ≤ 10 := sev_len 9 x (by omega)
/-- The uppermost seven bits. -/
theorem sev_top (x : Nat) : ∃ t : UInt8, (∀ r, (sev x ++ r).getD ((sev x).length - 1) 0 = t) ∧ t.toNat < 128 ∧ (128 ≤ x → 1 ≤ t.toNat) ∧ (1 ≤ x → 1 ≤ t.toNat) ∧ t.toNat * 128 ^ ((sev x).length - 1) ≤ x := by
  induction x using Nat.strongRecOn with
  | ind x ih =>
    by_cases h : x < 128
    · rw [sev_small h]
      refine ⟨UInt8.ofNat x, fun r => by simp, by rw [toNat_of (by omega)]; exact h, by omega, by rw [toNat_of (by omega)]; omega, ?_⟩
      rw [toNat_of (by omega)]; simp
    · obtain ⟨t, h1, h2, h3, h4, h5⟩ := ih (x / 128) (by omega)
      rw [sev_big (by omega)]
      have hp := sev_pos (x / 128)
      refine ⟨t, fun r => ?_, h2, fun _ => h4 (by omega), fun _ => h4 (by omega), ?_⟩
      · rw [List.cons_append, List.length_cons, Nat.add_sub_cancel]
        have := h1 r
        obtain ⟨m, hm⟩ : ∃ m, (sev (x / 128)).length = m + 1 := ⟨(sev (x / 128)).length - 1, by omega⟩
        rw [hm] at this ⊢
        simpa using this
      · rw [List.length_cons, Nat.add_sub_cancel]
        obtain ⟨m, hm⟩ : ∃ m, (sev (x / 128)).length = m + 1 := ⟨(sev (x / 128)).length - 1, by omega⟩
        rw [hm] at h5 ⊢
        rw [Nat.add_sub_cancel] at h5
        rw [Nat.pow_succ, ← Nat.mul_assoc]
        generalize t.toNat * 128 ^ m = y at *
        omega
theorem lead_sev (x : Nat) (r : List UInt8) : lead (sev x ++ r) = (sev x).length - 1 := by
  induction x using Nat.strongRecOn with
  | ind x ih =>
    by_cases h : x < 128
    · rw [sev_small h]; simp [lead]; omega
    · rw [sev_big (by omega), List.cons_append, lead, toNat_of (by omega), if_pos (by omega), ih _ (by omega)]
      have := sev_pos (x / 128)
      simp; omega
/-- What was written is read. -/
theorem getN_sev (x : Nat) (hx : x < 18446744073709551616) (r : List UInt8) : getN (sev x ++ r) = (x, r, 0) := by
  have h10 := sev_ten hx
  have h1 := sev_pos x
  obtain ⟨t, g1, g2, g3, g4, g5⟩ := sev_top x
  have g1 := g1 r
  unfold getN
  rw [lead_sev, g1, if_neg (by omega), if_neg (by rw [List.length_append]; omega), if_neg]
  · rw [show (sev x).length - 1 + 1 = (sev x).length from by omega, List.take_left, List.drop_left, sevN_sev]
  · rintro (⟨p1, p2⟩ | ⟨p1, p2⟩)
    · by_cases hs : x < 128
      · rw [sev_small hs] at p1; simp at p1
      · have := g3 (by omega); omega
    · rw [p1] at g5
      have : 2 * 128 ^ 9 ≤ t.toNat * 128 ^ 9 := Nat.mul_le_mul_right _ (by omega)
      omega
/-- Bytes in sevens, the last one not none. -/
theorem sev_of_form : ∀ l : List UInt8, l ≠ [] → (∀ j, j + 1 < l.length → 128 ≤ (l.getD j 0).toNat) → 0 < (l.getD (l.length - 1) 0).toNat → (l.getD (l.length - 1) 0).toNat < 128 → 1 ≤ sevN l ∧ sev (sevN l) = l
  | [], h, _, _, _ => absurd rfl h
  | [b], _, _, h3, h4 => by
    simp at h3 h4
    have e : b.toNat % 128 = b.toNat := Nat.mod_eq_of_lt h4
    refine ⟨by simp [sevN, e]; omega, ?_⟩
    rw [show sevN [b] = b.toNat from by simp [sevN, e], sev_small h4]
    simp
  | b :: c :: l, _, h2, h3, h4 => by
    obtain ⟨i1, i2⟩ := sev_of_form (c :: l) (by simp) (fun j hj => by have := h2 (j + 1) (by simp at hj ⊢; omega); simpa using this) (by simpa using h3) (by simpa using h4)
    have hb : 128 ≤ b.toNat := by have := h2 0 (by simp); simpa using this
    have hb2 := b.toNat_lt
    have e : sevN (b :: c :: l) = b.toNat % 128 + 128 * sevN (c :: l) := rfl
    refine ⟨by omega, ?_⟩
    rw [e, sev_big (by omega), show (b.toNat % 128 + 128 * sevN (c :: l)) / 128 = sevN (c :: l) from by omega, i2, show (b.toNat % 128 + 128 * sevN (c :: l)) % 128 + 128 = b.toNat from by omega]
    simp
theorem getD_take {l : List UInt8} {j n : Nat} (h : j < n) : (l.take n).getD j 0 = l.getD j 0 := by
  simp [List.getD, h]
/-- What is read as a number is written so. -/
theorem sev_getN {l : List UInt8} {x : Nat} {r : List UInt8} (h : getN l = (x, r, 0)) : l = sev x ++ r ∧ x < 18446744073709551616 := by
  unfold getN at h
  have hle := lead_le l
  split at h
  · simp at h
  split at h
  · simp at h
  split at h
  · simp at h
  · rename_i h1 h2 h3
    simp only [Prod.mk.injEq, and_true] at h
    obtain ⟨rfl, rfl⟩ := h
    have hat := lead_at l (by omega)
    generalize hn : lead l = n at *
    have hl : (l.take (n + 1)).length = n + 1 := by rw [List.length_take]; omega
    have hlt : sevN (l.take (n + 1)) < 18446744073709551616 := by
      by_cases e : n = 9
      · subst e
        have h9 : l.take 10 = l.take 9 ++ [l.getD 9 0] := by
          rw [List.take_succ_eq_append_getElem (by omega)]; simp [show 9 < l.length by omega]
        rw [h9, sevN_snoc]
        have := sevN_lt (l.take 9)
        rw [show (l.take 9).length = 9 from by rw [List.length_take]; omega] at this ⊢
        have hd : (l.getD 9 0).toNat ≤ 1 := by omega
        have hm : (l.getD 9 0).toNat % 128 ≤ 1 := by omega
        have := Nat.mul_le_mul_right (128 ^ 9) hm
        omega
      · have := sevN_lt (l.take (n + 1))
        rw [hl] at this
        have h8 : 128 ^ (n + 1) ≤ 128 ^ 9 := Nat.pow_le_pow_right (by omega) (by omega)
        omega
    refine ⟨?_, hlt⟩
    by_cases h0 : (l.getD n 0).toNat = 0
    · obtain rfl : n = 0 := by omega
      match l, hl, h0 with
      | b :: l, _, h0 =>
        have hb : b = 0 := UInt8.toNat_inj.1 (by simpa using h0)
        subst hb
        simp [sevN, sev_small (show 0 < 128 by omega)]
    · have hf := sev_of_form (l.take (n + 1)) (by intro e; rw [e] at hl; simp at hl) (fun j hj => by rw [hl] at hj; rw [getD_take (by omega)]; exact lead_ge l j (by omega)) (by rw [hl, Nat.add_sub_cancel, getD_take (by omega)]; omega) (by rw [hl, Nat.add_sub_cancel, getD_take (by omega)]; exact hat)
      rw [hf.2, List.take_append_drop]
theorem getN_err {l : List UInt8} {x e : Nat} {r : List UInt8} (h : getN l = (x, r, e)) : e = 0 ∨ (x = 0 ∧ r = [] ∧ (e = 3 ∨ e = 5)) := by
  unfold getN at h
  split at h
  · simp only [Prod.mk.injEq] at h; obtain ⟨rfl, rfl, rfl⟩ := h; simp
  split at h
  · simp only [Prod.mk.injEq] at h; obtain ⟨rfl, rfl, rfl⟩ := h; simp
  split at h
  · simp only [Prod.mk.injEq] at h; obtain ⟨rfl, rfl, rfl⟩ := h; simp
  · simp only [Prod.mk.injEq] at h; omega
theorem getN_nil : getN [] = (0, [], 3) := by simp [getN, lead]

/-- A number's lowest bytes, the lowest first. -/
def fixB : Nat → Nat → List UInt8
  | _, 0 => []
  | x, n + 1 => UInt8.ofNat (x % 256) :: fixB (x / 256) n
def fixN : List UInt8 → Nat
  | [] => 0
  | b :: l => b.toNat + 256 * fixN l
theorem fixB_len : ∀ (n x : Nat), (fixB x n).length = n
  | 0, x => rfl
  | n + 1, x => by rw [fixB, List.length_cons, fixB_len n]
theorem fixN_fixB : ∀ (n x : Nat), fixN (fixB x n) = x % 256 ^ n
  | 0, x => by simp [fixB, fixN, Nat.mod_one]
  | n + 1, x => by
    rw [fixB, fixN, fixN_fixB n, toNat_of (Nat.mod_lt _ (by omega)), Nat.pow_succ, Nat.mul_comm (256 ^ n) 256, Nat.mod_mul]
theorem fixN_lt : ∀ l : List UInt8, fixN l < 256 ^ l.length
  | [] => by simp [fixN]
  | b :: l => by
    have := fixN_lt l
    have hb := b.toNat_lt
    rw [fixN, List.length_cons, Nat.pow_succ]
    omega
theorem fixN_lt8 {l : List UInt8} (h : l.length ≤ 8) : fixN l < 18446744073709551616 :=
  Nat.lt_of_lt_of_le (fixN_lt l) (Nat.le_trans (Nat.pow_le_pow_right (by omega) h) (by omega))
theorem fixB_snoc : ∀ (n x : Nat), fixB x (n + 1) = fixB x n ++ [UInt8.ofNat (x / 256 ^ n % 256)]
  | 0, x => by simp [fixB]
  | n + 1, x => by
    rw [fixB, fixB_snoc n, fixB, List.cons_append, Nat.div_div_eq_div_mul, Nat.pow_succ, Nat.mul_comm (256 ^ n)]
theorem fixB_take : ∀ (m n x : Nat), n ≤ m → (fixB x m).take n = fixB x n
  | _, 0, x, _ => by simp [fixB]
  | 0, n + 1, x, h => by omega
  | m + 1, n + 1, x, h => by rw [fixB, fixB, List.take_succ_cons, fixB_take m n _ (by omega)]
/-- A number of a width is read. -/
def getF (l : List UInt8) (n : Int) : Nat × List UInt8 × Nat :=
  if n < 1 ∨ 8 < n then (0, [], 1)
  else if (l.length : Int) < n then (0, [], 3)
  else (fixN (l.take n.toNat), l.drop n.toNat, 0)
theorem getF_fix (x : Nat) (n : Int) (h1 : 1 ≤ n) (h2 : n ≤ 8) (r : List UInt8) : getF (fixB x n.toNat ++ r) n = (x % 256 ^ n.toNat, r, 0) := by
  have hl := fixB_len n.toNat x
  unfold getF
  rw [if_neg (by omega), if_neg (by rw [List.length_append, hl]; omega), List.take_left' hl, List.drop_left' hl, fixN_fixB]
theorem getF_err {l : List UInt8} {n : Int} {x e : Nat} {r : List UInt8} (h : getF l n = (x, r, e)) : x < 18446744073709551616 ∧ (e = 0 ∨ (x = 0 ∧ r = [] ∧ (e = 1 ∨ e = 3))) := by
  unfold getF at h
  split at h
  · simp only [Prod.mk.injEq] at h; obtain ⟨rfl, rfl, rfl⟩ := h; simp
  split at h
  · simp only [Prod.mk.injEq] at h; obtain ⟨rfl, rfl, rfl⟩ := h; simp
  · simp only [Prod.mk.injEq] at h; obtain ⟨rfl, rfl, rfl⟩ := h
    exact ⟨fixN_lt8 (by rw [List.length_take]; omega), .inl rfl⟩
/-- A length and bytes are read. -/
def getB (l : List UInt8) (most : Int) : List UInt8 × List UInt8 × Nat :=
  if (getN l).2.2 ≠ 0 then ([], [], (getN l).2.2)
  else if most < 0 ∨ most < ((getN l).1 : Int) then ([], [], 4)
  else if (getN l).2.1.length < (getN l).1 then ([], [], 3)
  else ((getN l).2.1.take (getN l).1, (getN l).2.1.drop (getN l).1, 0)
theorem getB_bytes (b : List UInt8) (hb : b.length ≤ 200) (r : List UInt8) : getB (sev b.length ++ b ++ r) 200 = (b, r, 0) := by
  unfold getB
  rw [List.append_assoc, getN_sev _ (by omega)]
  simp only []
  rw [if_neg (by simp), if_neg (by omega), if_neg (by rw [List.length_append]; omega), List.take_left, List.drop_left]
theorem getB_err {l : List UInt8} {most : Int} {t r : List UInt8} {e : Nat} (h : getB l most = (t, r, e)) : e = 0 ∨ (t = [] ∧ r = []) := by
  unfold getB at h
  split at h
  · simp only [Prod.mk.injEq] at h; obtain ⟨rfl, rfl, rfl⟩ := h; simp
  split at h
  · simp only [Prod.mk.injEq] at h; obtain ⟨rfl, rfl, rfl⟩ := h; simp
  split at h
  · simp only [Prod.mk.injEq] at h; obtain ⟨rfl, rfl, rfl⟩ := h; simp
  · simp only [Prod.mk.injEq] at h; exact .inl h.2.2.symm
end Go.Proofs.YtanfnhgaooafeaaGreatDoor.BufM
/-! BufU -/
namespace Go.Proofs.YtanfnhgaooafeaaGreatDoor.Units
open Go.ChangeShapes Go.WideShapes Go.ChangeAt Go.RowKit
set_option linter.unusedVariables false
theorem ret_ib {k : IntKind} {a b : Int} {c d : Bool} (h : a = b) (h' : c = d) : Ending.returned (.tuple #[.int k a, .bool c]) = Ending.returned (.tuple #[.int k b, .bool d]) := by rw [h, h']
theorem ret_ii {k l : IntKind} {a b c d : Int} (h : a = b) (h' : c = d) : Ending.returned (.tuple #[.int k a, .int l c]) = Ending.returned (.tuple #[.int k b, .int l d]) := by rw [h, h']
theorem ret_int {k : IntKind} {a b : Int} (h : a = b) : Ending.returned (.int k a) = .returned (.int k b) := by rw [h]
theorem ret_bool {a b : Bool} (h : a = b) : Ending.returned (.bool a) = .returned (.bool b) := by rw [h]

def zigV (a : Int) : Int := if a < 0 then -2 * a - 1 else 2 * a
theorem zig_num (a b : Int) (h : a < 0) (h1 : -9223372036854775808 ≤ a) (hb : b = -1 - a) : IntKind.u64.wrap (IntKind.u64.wrap (2 * IntKind.u64.wrap b) + 1) = zigV a := by
  unfold zigV; rw [if_pos h]; simp only [IntKind.wrap_u64]; omega
theorem rzig_num (a : Int) (h : a < 0) (h1 : -9223372036854775808 ≤ a) : IntKind.u64.wrap (IntKind.u64.wrap (IntKind.u64.wrap (-(a + 1)) * 2) + 1) = zigV a := by
  unfold zigV; rw [if_pos h]; simp only [IntKind.wrap_u64]; omega
def zagV (u : Int) : Int := if u % 2 = 0 then u / 2 else -1 - u / 2
/-- The byte of a number that counts so much. -/
def byV (a d : Int) : Int := a / d % 256
theorem byV_bd (a d : Int) : 0 ≤ byV a d ∧ byV a d ≤ 255 := by unfold byV; omega
abbrev bytesV (a : Int) : Value := .agg #[.int .u8 (byV a 1), .int .u8 (byV a 256), .int .u8 (byV a 65536), .int .u8 (byV a 16777216), .int .u8 (byV a 4294967296), .int .u8 (byV a 1099511627776), .int .u8 (byV a 281474976710656), .int .u8 (byV a 72057594037927936)]
theorem ret_agg8 {a0 a1 a2 a3 a4 a5 a6 a7 b0 b1 b2 b3 b4 b5 b6 b7 : Int} (h0 : a0 = b0) (h1 : a1 = b1) (h2 : a2 = b2) (h3 : a3 = b3) (h4 : a4 = b4) (h5 : a5 = b5) (h6 : a6 = b6) (h7 : a7 = b7) :
    Ending.returned (.agg #[.int .u8 a0, .int .u8 a1, .int .u8 a2, .int .u8 a3, .int .u8 a4, .int .u8 a5, .int .u8 a6, .int .u8 a7]) = Ending.returned (.agg #[.int .u8 b0, .int .u8 b1, .int .u8 b2, .int .u8 b3, .int .u8 b4, .int .u8 b5, .int .u8 b6, .int .u8 b7]) := by
  rw [h0, h1, h2, h3, h4, h5, h6, h7]
set_option maxRecDepth 100000 in
theorem bytes_any (a : Int) (ha1 : 0 ≤ a) (ha2 : a ≤ 18446744073709551615) (w : World) :
    Calls Tryz.prog 82 #[.int .u64 a] w fun e w' => e = .returned (bytesV a) ∧ Below w.heap.size w w' := by
  go_enter Tryz.func82, Tryz.ntmps82
  go_wp2
  go_rounds 9
  go_returns
  refine ⟨?_, by go_grown⟩
  apply ret_agg8 <;> (unfold byV; omega)
def numV (b0 b1 b2 b3 b4 b5 b6 b7 : Int) : Int := b0 + b1 * 256 + b2 * 65536 + b3 * 16777216 + b4 * 4294967296 + b5 * 1099511627776 + b6 * 281474976710656 + b7 * 72057594037927936
theorem or_step (a b d : Int) (k : Nat) (hd : d = 2 ^ k) (ha : 0 ≤ a) (had : a < d) (hA : a ≤ 18446744073709551615) (hb : 0 ≤ b) (hB : b * d ≤ 18446744073709551615) : bits .or .u64 a (b * d) = a + b * d := by
  subst hd
  rw [Bits.or_comm_u64, Bits.or_u64 (b * 2 ^ k) a k (Int.mul_nonneg hb (Int.pow_nonneg (by omega))) ha had (Int.mul_emod_left _ _) hB hA, Int.add_comm]
theorem or_zero (a : Int) (ha : 0 ≤ a) (hA : a ≤ 18446744073709551615) : bits .or .u64 0 a = a := by
  rw [Bits.or_u64 0 a 64 (by omega) ha (by omega) (by omega) (by omega) hA, Int.zero_add]
theorem num_or (b0 b1 b2 b3 b4 b5 b6 b7 : Int) (h0 : 0 ≤ b0 ∧ b0 ≤ 255) (h1 : 0 ≤ b1 ∧ b1 ≤ 255) (h2 : 0 ≤ b2 ∧ b2 ≤ 255) (h3 : 0 ≤ b3 ∧ b3 ≤ 255) (h4 : 0 ≤ b4 ∧ b4 ≤ 255) (h5 : 0 ≤ b5 ∧ b5 ≤ 255) (h6 : 0 ≤ b6 ∧ b6 ≤ 255) (h7 : 0 ≤ b7 ∧ b7 ≤ 255) :
    bits .or .u64 (bits .or .u64 (bits .or .u64 (bits .or .u64 (bits .or .u64 (bits .or .u64 (bits .or .u64 (bits .or .u64 0 b0) (b1 * 256)) (b2 * 65536)) (b3 * 16777216)) (b4 * 4294967296)) (b5 * 1099511627776)) (b6 * 281474976710656)) (b7 * 72057594037927936) = numV b0 b1 b2 b3 b4 b5 b6 b7 := by
  rw [or_zero b0 (by omega) (by omega)]
  rw [or_step b0 b1 256 8 rfl (by omega) (by omega) (by omega) (by omega) (by omega)]
  rw [or_step _ b2 65536 16 rfl (by omega) (by omega) (by omega) (by omega) (by omega)]
  rw [or_step _ b3 16777216 24 rfl (by omega) (by omega) (by omega) (by omega) (by omega)]
  rw [or_step _ b4 4294967296 32 rfl (by omega) (by omega) (by omega) (by omega) (by omega)]
  rw [or_step _ b5 1099511627776 40 rfl (by omega) (by omega) (by omega) (by omega) (by omega)]
  rw [or_step _ b6 281474976710656 48 rfl (by omega) (by omega) (by omega) (by omega) (by omega)]
  rw [or_step _ b7 72057594037927936 56 rfl (by omega) (by omega) (by omega) (by omega) (by omega)]
  rfl
theorem num_bytes (a : Int) (h1 : 0 ≤ a) (h2 : a ≤ 18446744073709551615) :
    numV (byV a 1) (byV a 256) (byV a 65536) (byV a 16777216) (byV a 4294967296) (byV a 1099511627776) (byV a 281474976710656) (byV a 72057594037927936) = a := by
  unfold numV byV; omega
set_option maxRecDepth 100000 in
theorem number_of (b0 b1 b2 b3 b4 b5 b6 b7 : Int) (h0 : 0 ≤ b0 ∧ b0 ≤ 255) (h1 : 0 ≤ b1 ∧ b1 ≤ 255) (h2 : 0 ≤ b2 ∧ b2 ≤ 255) (h3 : 0 ≤ b3 ∧ b3 ≤ 255) (h4 : 0 ≤ b4 ∧ b4 ≤ 255) (h5 : 0 ≤ b5 ∧ b5 ≤ 255) (h6 : 0 ≤ b6 ∧ b6 ≤ 255) (h7 : 0 ≤ b7 ∧ b7 ≤ 255) (w : World) :
    Calls Tryz.prog 102 #[.agg #[.int .u8 b0, .int .u8 b1, .int .u8 b2, .int .u8 b3, .int .u8 b4, .int .u8 b5, .int .u8 b6, .int .u8 b7]] w fun e w' => e = .returned (.int .u64 (numV b0 b1 b2 b3 b4 b5 b6 b7)) ∧ Below w.heap.size w w' := by
  have HN := Lib.hid (num_or b0 b1 b2 b3 b4 b5 b6 b7 h0 h1 h2 h3 h4 h5 h6 h7)
  obtain ⟨h00, h01⟩ := h0
  obtain ⟨h10, h11⟩ := h1
  obtain ⟨h20, h21⟩ := h2
  obtain ⟨h30, h31⟩ := h3
  obtain ⟨h40, h41⟩ := h4
  obtain ⟨h50, h51⟩ := h5
  obtain ⟨h60, h61⟩ := h6
  obtain ⟨h70, h71⟩ := h7
  go_enter Tryz.func102, Tryz.ntmps102
  go_wp2
  go_rounds 9
  go_returns
  exact ⟨ret_int HN.out, by go_grown⟩
theorem zag_zig (a : Int) : zagV (zigV a) = a := by unfold zagV zigV; split <;> split <;> omega
theorem zig_zag (u : Int) (h : 0 ≤ u) : zigV (zagV u) = u := by unfold zagV zigV; split <;> split <;> omega
theorem zig_bd (a : Int) (h1 : -9223372036854775808 ≤ a) (h2 : a ≤ 9223372036854775807) : 0 ≤ zigV a ∧ zigV a ≤ 18446744073709551615 := by unfold zigV; split <;> omega
theorem zag_bd (u : Int) (h1 : 0 ≤ u) (h2 : u ≤ 18446744073709551615) : -9223372036854775808 ≤ zagV u ∧ zagV u ≤ 9223372036854775807 := by unfold zagV; split <;> omega

open Go.Proofs.YtanfnhgaooafeaaGreatDoor.Byt Go.Proofs.YtanfnhgaooafeaaGreatDoor.BufM
theorem bv_of {x : Nat} (h : x < 256) : bv (UInt8.ofNat x) = .int .u8 (x : Int) := by unfold bv; rw [toNat_of h]
theorem bytesV_fix (x : Nat) : bytesV (x : Int) = .agg (bvs (fixB x 8)).toArray := by
  simp only [fixB, bvs, List.map_cons, List.map_nil]
  rw [bv_of (Nat.mod_lt _ (by omega)), bv_of (Nat.mod_lt _ (by omega)), bv_of (Nat.mod_lt _ (by omega)), bv_of (Nat.mod_lt _ (by omega)), bv_of (Nat.mod_lt _ (by omega)), bv_of (Nat.mod_lt _ (by omega)), bv_of (Nat.mod_lt _ (by omega)), bv_of (Nat.mod_lt _ (by omega))]
  have e0 : byV (x : Int) 1 = ((x % 256 : Nat) : Int) := by unfold byV; omega
  have e1 : byV (x : Int) 256 = ((x / 256 % 256 : Nat) : Int) := by unfold byV; omega
  have e2 : byV (x : Int) 65536 = ((x / 256 / 256 % 256 : Nat) : Int) := by unfold byV; omega
  have e3 : byV (x : Int) 16777216 = ((x / 256 / 256 / 256 % 256 : Nat) : Int) := by unfold byV; omega
  have e4 : byV (x : Int) 4294967296 = ((x / 256 / 256 / 256 / 256 % 256 : Nat) : Int) := by unfold byV; omega
  have e5 : byV (x : Int) 1099511627776 = ((x / 256 / 256 / 256 / 256 / 256 % 256 : Nat) : Int) := by unfold byV; omega
  have e6 : byV (x : Int) 281474976710656 = ((x / 256 / 256 / 256 / 256 / 256 / 256 % 256 : Nat) : Int) := by unfold byV; omega
  have e7 : byV (x : Int) 72057594037927936 = ((x / 256 / 256 / 256 / 256 / 256 / 256 / 256 % 256 : Nat) : Int) := by unfold byV; omega
  unfold bytesV
  rw [e0, e1, e2, e3, e4, e5, e6, e7]
theorem bytes_nat (x : Nat) (h : x < 18446744073709551616) (w : World) :
    Calls Tryz.prog 82 #[.int .u64 (x : Int)] w fun e w' => e = .returned (.agg (bvs (fixB x 8)).toArray) ∧ Below w.heap.size w w' :=
  (bytes_any x (by omega) (by omega) w).mono fun e w' h => ⟨by rw [h.1, bytesV_fix], h.2⟩
theorem number_nat (l : List UInt8) (hl : l.length = 8) (w : World) :
    Calls Tryz.prog 102 #[.agg (bvs l).toArray] w fun e w' => e = .returned (.int .u64 ((fixN l : Nat) : Int)) ∧ Below w.heap.size w w' := by
  match l, hl with
  | [b0, b1, b2, b3, b4, b5, b6, b7], _ =>
    have k : ∀ b : UInt8, 0 ≤ (b.toNat : Int) ∧ (b.toNat : Int) ≤ 255 := fun b => by have := b.toNat_lt; omega
    refine (number_of _ _ _ _ _ _ _ _ (k b0) (k b1) (k b2) (k b3) (k b4) (k b5) (k b6) (k b7) w).mono fun e w' h => ⟨?_, h.2⟩
    rw [h.1]
    exact ret_int (by unfold numV; simp only [fixN]; omega)
/-- A sign folded in, as a number. -/
def zigN (a : Int) : Nat := (zigV a).toNat
theorem zigN_lt (a : Int) (h1 : -9223372036854775808 ≤ a) (h2 : a ≤ 9223372036854775807) : zigN a < 18446744073709551616 := by
  have := zig_bd a h1 h2; unfold zigN; omega
theorem zigN_cast (a : Int) (h1 : -9223372036854775808 ≤ a) (h2 : a ≤ 9223372036854775807) : ((zigN a : Nat) : Int) = zigV a := by
  have := zig_bd a h1 h2; unfold zigN; omega
theorem zigN_zag (x : Nat) : zigN (zagV x) = x := by unfold zigN; rw [zig_zag x (by omega)]; omega
end Go.Proofs.YtanfnhgaooafeaaGreatDoor.Units
/-! BufA -/
namespace Go.Proofs.YtanfnhgaooafeaaGreatDoor.Buf
open Go.ChangeShapes Go.WideShapes Go.ChangeAt Go.RowKit
open Go.Proofs.YtanfnhgaooafeaaGreatDoor.Byt Go.Proofs.YtanfnhgaooafeaaGreatDoor.Units Go.Proofs.YtanfnhgaooafeaaGreatDoor.BufM
set_option linter.unusedVariables false

/-- A block that holds just these cells. -/
def Blk (w : World) (g : Nat) (t : TypeId) (cs : Array Value) : Prop := w.heap[g]? = some (.cells cs t (0, 0))
section
variable {w w' : World} {g : Nat} {t : TypeId} {cs : Array Value}
theorem Blk.lt (h : Blk w g t cs) : g < w.heap.size := (Array.getElem?_eq_some_iff.1 h).1
theorem Blk.cell (h : Blk w g t cs) (i : Nat) : w.cell? ⟨g, i, none⟩ = cs[i]? := cell_of_row w g i cs t (0, 0) h
theorem Blk.free (h : Blk w g t cs) (i : Nat) : w.frozen? ⟨g, i, none⟩ = false := frozen_of_row w g i cs t h
theorem Blk.new (w : World) (t : TypeId) (cs : Array Value) : Blk (w.alloc (.cells cs t)) w.heap.size t cs := heap_alloc_last w _
theorem Blk.drewN (h : Blk w g t cs) (n : Nat) : Blk (w.drewN n) g t cs := h
theorem Blk.alloc (h : Blk w g t cs) (o : Obj) : Blk (w.alloc o) g t cs := (Below.heap_alloc w o g h.lt).trans h
theorem Blk.put (h : Blk w g t cs) (i : Nat) (u : Value) : Blk (w.setCell ⟨g, i, none⟩ u) g t (cs.setIfInBounds i u) := heap_setCell_same _ _ _ _ _ _ h
theorem Blk.far (h : Blk w g t cs) {p : Addr} (hp : g ≠ p.block) (u : Value) : Blk (w.setCell p u) g t cs := (Below.heap_setCell w p u g hp).trans h
theorem Blk.below (h : Blk w g t cs) (hb : Below w.heap.size w w') : Blk w' g t cs := (hb.block g h.lt).trans h
theorem Blk.below2 {B : Nat} (h : Blk w g t cs) (hb : Below B w w') (hg : g < B) : Blk w' g t cs := (hb.block g hg).trans h
theorem Blk.grown {row : Option Nat} (h : Blk w g t cs) (hb : w.grownBy w' row) (hg : some g ≠ row) : Blk w' g t cs := (hb.block g h.lt hg).trans h
theorem Blk.ne {g' : Nat} {t' : TypeId} {cs' : Array Value} (h : Blk w g t cs) (h' : Blk w g' t' cs') (hne : t ≠ t') : g ≠ g' := by
  rintro rfl
  have := h.symm.trans h'
  injection this with this
  injection this with _ ht _
  exact hne ht
/-- A row of bytes of the call's own lies in no block of another type. -/
theorem own_ne {base : Nat} {v : Value} {l : List UInt8} (h : OwnB w base v l) (hg : Blk w g t cs) (hne : 5 ≠ t) : v.ownBlock ≠ some g := by
  rcases h.2 with ⟨rfl, _⟩ | ⟨g', cap, cur, rfl, _, hh, _⟩
  · simp [Value.ownBlock]
  · intro he
    have e : g' = g := by simpa [Value.ownBlock] using he
    subst e
    exact Blk.ne (w := w) (g := g') (t := 5) hh hg hne rfl
theorem own_at {base : Nat} {v : Value} {l : List UInt8} {k : Nat} (h : OwnB w base v l) (hv : v.ownBlock = some k) : base ≤ k ∧ k < w.heap.size := by
  have := World.ownsRow.lt h k hv
  exact this
/-- A row of bytes stays while its block does. -/
theorem own_kept {base : Nat} {v : Value} {l : List UInt8} (h : OwnB w base v l) (hs : w.heap.size ≤ w'.heap.size) (hk : ∀ k, v.ownBlock = some k → w'.heap[k]? = w.heap[k]?) : OwnB w' base v l := by
  refine ⟨h.1, ?_⟩
  rcases h.2 with h' | ⟨g', cap, cur, rfl, hb, hh, r⟩
  · exact .inl h'
  · exact .inr ⟨g', cap, cur, rfl, hb, (hk g' rfl).trans hh, r⟩
/-- Bytes that are read stay while their block does. -/
theorem rd_kept {ad : Option Addr} {l : List UInt8} (h : RdB w ad l) (hk : l ≠ [] → ∀ b o, ad = some ⟨b, o, none⟩ → b < w.heap.size → w'.heap[b]? = w.heap[b]?) : RdB w' ad l := by
  rcases h with h | ⟨b, off, e, hc⟩
  · exact .inl h
  · by_cases h0 : 0 < l.length
    · exact .inr ⟨b, off, e, fun i hi => (World.cell?_of_block (w := w) (a := ⟨b, off + i, none⟩) (hk (by intro hn; rw [hn] at h0; simp at h0) b off e (RdB.lt hc h0))).trans (hc i hi)⟩
    · exact .inl (List.eq_nil_of_length_eq_zero (by omega))
end

theorem ret0 {a b : Value} (h : a = b) : Ending.returned a = Ending.returned b := by rw [h]
theorem tell_yes (g : Nat) (t : TypeId) (cs : Array Value) (e : Int) (w : World) (hb : Blk w g t cs) (h0 : cs[0]? = some (.int .i64 0)) :
    Calls Tryz.prog 80 #[.pointer (some ⟨g, 0, none⟩), .int .i64 e] w fun en w' => en = .returned (.tuple #[]) ∧ w.setCell ⟨g, 0, none⟩ (.int .i64 e) = w' := by
  have c0 := hb.cell 0
  rw [h0] at c0
  have f0 := hb.free 0
  clear hb
  go_enter Tryz.func80, Tryz.ntmps80
  go_wp2_with fail
  go_returns
  exact ⟨rfl, rfl⟩
theorem tell_no (g : Nat) (t : TypeId) (cs : Array Value) (e e0 : Int) (w : World) (hb : Blk w g t cs) (h0 : cs[0]? = some (.int .i64 e0)) (hne : e0 ≠ 0) :
    Calls Tryz.prog 80 #[.pointer (some ⟨g, 0, none⟩), .int .i64 e] w fun en w' => en = .returned (.tuple #[]) ∧ w = w' := by
  have c0 := hb.cell 0
  rw [h0] at c0
  have hn : (e0 == 0) = false := by simpa using hne
  clear hb hne
  go_enter Tryz.func80, Tryz.ntmps80
  go_wp2_with fail
  go_returns
  exact ⟨rfl, rfl⟩
def isW (n : Int) : Bool := decide (1 ≤ n ∧ n ≤ 8)
theorem isWidth_any (n : Int) (w : World) :
    Calls Tryz.prog 81 #[.int .i64 n] w fun en w' => en = .returned (.bool (isW n)) ∧ w = w' := by
  by_cases h1 : 1 ≤ n
  · by_cases h2 : n ≤ 8
    · have HI := Lib.hid (show isW n = true from decide_eq_true ⟨h1, h2⟩)
      go_enter Tryz.func81, Tryz.ntmps81
      go_wp2_with fail
      go_ret
      exact ⟨ret_bool HI.out.symm, rfl⟩
    · have HI := Lib.hid (show isW n = false from decide_eq_false (by omega))
      go_enter Tryz.func81, Tryz.ntmps81
      go_wp2_with fail
      go_ret
      exact ⟨ret_bool HI.out.symm, rfl⟩
  · have HI := Lib.hid (show isW n = false from decide_eq_false (by omega))
    go_enter Tryz.func81, Tryz.ntmps81
    go_wp2_with fail
    go_ret
    exact ⟨ret_bool HI.out.symm, rfl⟩
/-- May a byte end a number in sevens, behind so many. -/
def lastB (y i : Nat) : Bool := decide (i = 0 ∨ (y ≠ 0 ∧ (i < 9 ∨ y = 1)))
theorem isLast_any (y i : Nat) (w : World) :
    Calls Tryz.prog 96 #[.int .u8 (y : Int), .int .i64 (i : Int)] w fun en w' => en = .returned (.bool (lastB y i)) ∧ w = w' := by
  have key : ∀ r, decide (i = 0 ∨ (y ≠ 0 ∧ (i < 9 ∨ y = 1))) = r → Hid (lastB y i = r) := fun r h => Lib.hid h
  have key := Lib.hid key
  by_cases h0 : i = 0
  · have H0 : ((i : Int) == 0) = true := by simp [h0]
    have HI := key.out _ (decide_eq_true (.inl h0))
    clear h0
    go_enter Tryz.func96, Tryz.ntmps96
    go_wp2_with fail
    go_ret
    exact ⟨ret_bool HI.out.symm, rfl⟩
  · have H0 : ((i : Int) == 0) = false := by simp; omega
    by_cases hy : y = 0
    · have HI := key.out _ (decide_eq_false (by omega))
      have HY : ((y : Int) != 0) = false := by simp [hy]
      clear h0 hy
      go_enter Tryz.func96, Tryz.ntmps96
      go_wp2_with fail
      go_ret
      exact ⟨ret_bool HI.out.symm, rfl⟩
    · have HY : ((y : Int) != 0) = true := by simp; omega
      by_cases h9 : i < 9
      · have HI := key.out _ (decide_eq_true (by omega))
        clear h0 hy
        go_enter Tryz.func96, Tryz.ntmps96
        go_wp2_with fail
        go_ret
        exact ⟨ret_bool HI.out.symm, rfl⟩
      · have h9' : ¬ (i : Int) < 9 := by omega
        by_cases h1 : y = 1
        · have HI := key.out _ (decide_eq_true (by omega))
          have H1 : ((y : Int) == 1) = true := by simp [h1]
          clear h0 hy h1 h9
          go_enter Tryz.func96, Tryz.ntmps96
          go_wp2_with fail
          go_ret
          exact ⟨ret_bool HI.out.symm, rfl⟩
        · have HI := key.out _ (decide_eq_false (by omega))
          have H1 : ((y : Int) == 1) = false := by simp; omega
          clear h0 hy h1 h9
          go_enter Tryz.func96, Tryz.ntmps96
          go_wp2_with fail
          go_ret
          exact ⟨ret_bool HI.out.symm, rfl⟩
theorem nil_none {w : World} {ad : Option Addr} {len cap : Nat} {l : List UInt8} (hlen : l.length = len) (hr : RdB w ad l) (hn : ad = none → cap = 0) : ad = none → len = 0 ∧ cap = 0 := by
  intro h
  rcases hr with h' | ⟨b, o, e, _⟩
  · exact ⟨by rw [← hlen, h']; rfl, hn h⟩
  · rw [h] at e; cases e
/-- Fresh: the same bytes in memory of the call's own. -/
theorem fresh_any (ad : Option Addr) (len cap : Nat) (l : List UInt8) (w : World) (hlen : l.length = len) (hm : len ≤ 140737488355328) (hr : RdB w ad l) (hn : ad = none → cap = 0) :
    Calls Tryz.prog 47 #[.slice ad len cap] w fun e w' => ∃ v, e = .returned v ∧ OwnB w' w.heap.size v l ∧ Below w.heap.size w w' := by
  obtain ⟨i0, hi, hz0, hz1, hz2⟩ := info_parts infoByte
  have c0 := World.ownsRow_nil w w.heap.size 5 1
  have c1 := Lib.hid (nil_none hlen hr hn)
  have c2 := Lib.hid (RdB.cells hr)
  have c3 := Lib.hid hlen
  clear hlen hr hn
  go_enter Tryz.func47, Tryz.ntmps47
  go_wp2_with (at_builtin; refine Own.wpList_append2_any _ rfl _ _ 25 rfl w.heap.size 5 i0 (.int .u8 0) 1 1 Tryz.underlying25 hi hz0 hz1 hz2 rfl (by decide) (.slice none 0 0) 0 [] rfl c0 ad len cap (bvs l) rfl (by rw [bvs_len, Nat.mul_one, c3.out]) c1.out c2.out (bvs_oneCell _) (by unfold maxLen; omega) (by omega) (Nat.le_refl _) ?_; intro v' w1 hown hgrow _)
  have HO : Hid (OwnB w1 w.heap.size v' l) := Lib.hid (by unfold OwnB; rw [c3.out]; simpa using hown)
  have HB : Hid (Below w.heap.size w w1) := Lib.hid ((Below.refl _ _).grown hgrow (Nat.le_refl _) (by simp [Value.ownBlock]))
  clear hown hgrow
  go_wp2_with fail
  go_ret
  exact ⟨v', rfl, HO.out, HB.out⟩
end Go.Proofs.YtanfnhgaooafeaaGreatDoor.Buf
/-! BufB -/
namespace Go.Proofs.YtanfnhgaooafeaaGreatDoor.Buf
open Go.ChangeShapes Go.WideShapes Go.ChangeAt Go.RowKit
open Go.Proofs.YtanfnhgaooafeaaGreatDoor.Byt Go.Proofs.YtanfnhgaooafeaaGreatDoor.Units Go.Proofs.YtanfnhgaooafeaaGreatDoor.BufM
set_option linter.unusedVariables false

/-- Bytes are written: what is wrong, what was written. -/
def wByte (m : Nat) (s : Int × List UInt8) (b : List UInt8) : Int × List UInt8 :=
  if s.1 ≠ 0 then s else if m - s.2.length < b.length then (4, s.2) else (0, s.2 ++ b)
def wFix (m : Nat) (s : Int × List UInt8) (x : Nat) (n : Int) : Int × List UInt8 := if isW n then wByte m s (fixB x n.toNat) else (if s.1 = 0 then 1 else s.1, s.2)
def wNum (m : Nat) (s : Int × List UInt8) (x : Nat) : Int × List UInt8 := wByte m s (sev x)
def wBytes (m : Nat) (s : Int × List UInt8) (b : List UInt8) : Int × List UInt8 := wByte m (wNum m s b.length) b
theorem wByte_bad {m : Nat} {s : Int × List UInt8} (b : List UInt8) (h : s.1 ≠ 0) : wByte m s b = s := by unfold wByte; rw [if_pos h]
theorem wByte_long {m : Nat} {s : Int × List UInt8} (b : List UInt8) (h : s.1 = 0) (hl : m - s.2.length < b.length) : wByte m s b = (4, s.2) := by unfold wByte; rw [if_neg (by simpa using h), if_pos hl]
theorem wByte_fits {m : Nat} {s : Int × List UInt8} (b : List UInt8) (h : s.1 = 0) (hl : ¬ m - s.2.length < b.length) : wByte m s b = (0, s.2 ++ b) := by unfold wByte; rw [if_neg (by simpa using h), if_neg hl]
theorem wByte_len {m : Nat} {s : Int × List UInt8} (b : List UInt8) : (wByte m s b).2.length ≤ s.2.length + b.length := by
  unfold wByte; split
  · omega
  split
  · simp
  · simp

/-- The writer in memory, from block B on: what is wrong and what was written; the block of the bytes. -/
structure WR (w : World) (B g m : Nat) (s : Int × List UInt8) (row : Option Nat) : Prop where
  ge : B ≤ g
  mem : ∃ v, Blk w g 56 #[.int .i64 s.1, .int .i64 m, v] ∧ OwnB w B v s.2 ∧ v.ownBlock = row
  room : s.2.length ≤ m
  max : m ≤ 9223372036854775807
/-- What a call of the writer touches: its block, its row; a new row is new. -/
structure WStep (w w' : World) (B g : Nat) (row row' : Option Nat) : Prop where
  below : Below B w w'
  block : ∀ k, k < w.heap.size → k ≠ g → some k ≠ row → w'.heap[k]? = w.heap[k]?
  new : row' = row ∨ ∀ k, row' = some k → w.heap.size ≤ k
theorem WStep.refl (w : World) (B g : Nat) (row : Option Nat) : WStep w w B g row row := ⟨Below.refl _ _, fun _ _ _ _ => rfl, .inl rfl⟩
theorem WStep.trans {a b c : World} {B g : Nat} {r0 r1 r2 : Option Nat} (h : WStep a b B g r0 r1) (k : WStep b c B g r1 r2) : WStep a c B g r0 r2 := by
  have hs := h.below.size
  refine ⟨h.below.trans k.below, fun i hi h1 h2 => ?_, ?_⟩
  · rw [k.block i (by omega) h1 ?_, h.block i hi h1 h2]
    rcases h.new with e | e
    · rw [e]; exact h2
    · intro e2; have := e i e2.symm; omega
  · rcases k.new with e | e
    · rw [e]; exact h.new
    · exact .inr fun i hi => by have := e i hi; omega
/-- What makes memory alone, ahead of a call of the writer. -/
theorem WStep.ahead {a b c : World} {B g : Nat} {r0 r1 : Option Nat} (hB : Below a.heap.size a b) (k : WStep b c B g r0 r1) (hle : B ≤ a.heap.size) : WStep a c B g r0 r1 := by
  have hs := hB.size
  refine ⟨(hB.mono hle).trans k.below, fun i hi h1 h2 => ?_, ?_⟩
  · rw [k.block i (by omega) h1 h2, hB.block i hi]
  · rcases k.new with e | e
    · exact .inl e
    · exact .inr fun i hi => by have := e i hi; omega
theorem WR.le {w : World} {B g m : Nat} {s : Int × List UInt8} {row : Option Nat} (h : WR w B g m s row) : B ≤ w.heap.size := by
  obtain ⟨v, hb, _⟩ := h.mem
  have := hb.lt; have := h.ge; omega
theorem WR.kept {w w' : World} {B g m : Nat} {s : Int × List UInt8} {row : Option Nat} (h : WR w B g m s row) (hB : Below w.heap.size w w') : WR w' B g m s row := by
  obtain ⟨v, hb, ho, hr⟩ := h.mem
  exact ⟨h.ge, ⟨v, hb.below hB, ho.below hB, hr⟩, h.room, h.max⟩
/-- The writer stays where other blocks are touched. -/
theorem WR.other {w w' : World} {B g m : Nat} {s : Int × List UInt8} {row : Option Nat} (h : WR w B g m s row) (hs : w.heap.size ≤ w'.heap.size) (hk : ∀ k, k = g ∨ some k = row → w'.heap[k]? = w.heap[k]?) : WR w' B g m s row := by
  obtain ⟨v, hb, ho, hr⟩ := h.mem
  exact ⟨h.ge, ⟨v, (hk g (.inl rfl)).trans hb, own_kept ho hs fun k e => hk k (.inr (by rw [← hr, e])), hr⟩, h.room, h.max⟩
/-- What a call of the writer leaves. -/
def WPost (w : World) (B g m : Nat) (row : Option Nat) (s : Int × List UInt8) (e : Ending) (w' : World) : Prop :=
  e = .returned (.tuple #[]) ∧ ∃ row', WR w' B g m s row' ∧ WStep w w' B g row row'
/-- What a call leaves that makes memory alone and hands nothing back. -/
theorem new_any (most : Int) (h2 : most ≤ 9223372036854775807) (w : World) :
    Calls Tryz.prog 14 #[.int .i64 most] w fun e w' => e = .returned (.pointer (some ⟨w.heap.size, 0, none⟩)) ∧ WR w' w.heap.size w.heap.size most.toNat (0, []) none ∧ Below w.heap.size w w' ∧ w'.heap.size = w.heap.size + 1 := by
  have key : Hid (∀ x : Int, x = most.toNat → WR (w.alloc (.cells #[.int .i64 0, .int .i64 x, .slice none 0 0] 56)) w.heap.size w.heap.size most.toNat (0, []) none) :=
    Lib.hid (fun x hx => ⟨Nat.le_refl _, ⟨.slice none 0 0, by rw [hx]; exact Blk.new _ _ _, World.ownsRow_nil _ _ _ _, rfl⟩, by simp, by omega⟩)
  go_enter Tryz.func14, Tryz.ntmps14
  go_wp2_with fail
  all_goals
    go_returns
    exact ⟨rfl, key.out _ (by omega), (Below.refl _ _).alloc (Nat.le_refl _) _, by simp⟩
theorem byte_no (g B m : Nat) (e : Int) (l0 : List UInt8) (row : Option Nat) (ad : Option Addr) (len cap : Nat) (l : List UInt8) (w : World) (h : WR w B g m (e, l0) row) (he : e ≠ 0) :
    Calls Tryz.prog 43 #[.pointer (some ⟨g, 0, none⟩), .slice ad len cap] w (WPost w B g m row (e, l0)) := by
  obtain ⟨v, hb, ho, hv⟩ := h.mem
  have c0 := hb.cell 0
  simp at c0
  have hne : (e != 0) = true := by simpa using he
  have HP : Hid (WPost w B g m row (e, l0) (.returned (.tuple #[])) w) := Lib.hid ⟨rfl, row, h, WStep.refl _ _ _ _⟩
  clear h hb ho hv he
  go_enter Tryz.func43, Tryz.ntmps43
  go_wp2_with fail
  go_returns
  exact HP.out
theorem byte_long (g B m : Nat) (l0 : List UInt8) (row : Option Nat) (ad : Option Addr) (len cap : Nat) (w : World) (h : WR w B g m (0, l0) row) (hl : m - l0.length < len) (hm : len ≤ 9223372036854775807) :
    Calls Tryz.prog 43 #[.pointer (some ⟨g, 0, none⟩), .slice ad len cap] w (WPost w B g m row (4, l0)) := by
  obtain ⟨v, hb, ho, hv⟩ := h.mem
  have c0 := hb.cell 0
  have c1 := hb.cell 1
  have c2 := hb.cell 2
  simp at c0 c1 c2
  obtain ⟨rd, rcap, rfl, hshape⟩ := Own.shape ho
  have hroom := h.room
  have hmax := h.max
  simp only at hroom c2
  have HT : Hid (∀ n, Calls Tryz.prog 80 #[.pointer (some ⟨g, 0, none⟩), .int .i64 4] (w.drewN n) fun en w' => en = .returned (.tuple #[]) ∧ (w.drewN n).setCell ⟨g, 0, none⟩ (.int .i64 4) = w') :=
    Lib.hid fun n => tell_yes g _ _ 4 (w.drewN n) (hb.drewN n) rfl
  have HP : Hid (∀ n, WPost w B g m row (4, l0) (.returned (.tuple #[])) ((w.drewN n).setCell ⟨g, 0, none⟩ (.int .i64 4))) := Lib.hid (fun n => by
    have hne := own_ne ho hb (by decide)
    have hge := h.ge
    refine ⟨rfl, row, ⟨h.ge, ⟨_, (hb.drewN n).put 0 _, own_kept ho (by simp) (fun k hk => ?_), hv⟩, h.room, h.max⟩, ⟨(Own.below_drewN (Below.refl _ _) n).setCell hge _, fun k hk h1 h2 => ?_, .inl rfl⟩⟩
    · exact Below.heap_setCell _ _ _ _ (by rintro rfl; exact hne hk)
    · exact Below.heap_setCell _ _ _ _ h1)
  generalize l0.length = k at *
  have e1 : IntKind.i64.wrap ((m : Int) - (k : Int)) = (m : Int) - (k : Int) := IntWalk.i64_in _ (by omega)
  have ht : (m : Int) - (k : Int) < (len : Int) := by omega
  clear h hb ho hv hl hroom hmax hshape
  go_enter Tryz.func43, Tryz.ntmps43
  go_wp2_with fail
  go_quiet (fail)
  clear e1
  go_wp2_with fail
  refine (HT.out _).mono ?_; rintro e w' ⟨rfl, rfl⟩
  go_wp2_with fail
  go_returns
  exact HP.out _
set_option maxRecDepth 100000 in
theorem byte_fits (g B m : Nat) (l0 : List UInt8) (row : Option Nat) (ad : Option Addr) (len cap : Nat) (l : List UInt8) (w : World) (h : WR w B g m (0, l0) row) (hl : ¬ m - l0.length < len)
    (hlen : l.length = len) (hm : l0.length + len ≤ 1000000) (hr : RdB w ad l) (hn : ad = none → cap = 0) :
    Calls Tryz.prog 43 #[.pointer (some ⟨g, 0, none⟩), .slice ad len cap] w (WPost w B g m row (0, l0 ++ l)) := by
  obtain ⟨i0, hi, hz0, hz1, hz2⟩ := info_parts infoByte
  have hle := h.le
  obtain ⟨v, hb, ho, hv⟩ := h.mem
  have c0 := hb.cell 0
  have c1 := hb.cell 1
  have c2 := hb.cell 2
  have f2 := hb.free 2
  simp at c0 c1 c2
  obtain ⟨rd, rcap, rfl, hshape⟩ := Own.shape ho
  have hroom := h.room
  have hmax := h.max
  simp only at hroom c2
  have c3 := Lib.hid (nil_none hlen hr hn)
  have c4 : Hid (∀ n, _) := Lib.hid (fun n => RdB.cells (show RdB (w.drewN n) ad l from hr))
  have c5 := Lib.hid hlen
  have own : Hid (∀ n, (w.drewN n).ownsRow B 5 1 (.slice rd l0.length rcap) l0.length (bvs l0)) := Lib.hid (fun n => ho)
  have HP : Hid (∀ n w1 v1, w1.ownsRow B 5 1 v1 (l0.length + len) (bvs l0 ++ bvs l) → (w.drewN n).grownBy w1 (Value.slice rd l0.length rcap).ownBlock → (v1.ownBlock = (Value.slice rd l0.length rcap).ownBlock ∨ ∀ k, v1.ownBlock = some k → w.heap.size ≤ k) →
      (w1.cell? ⟨g, 2, none⟩ = some (.slice rd l0.length rcap) ∧ w1.frozen? ⟨g, 2, none⟩ = false) ∧ WPost w B g m row (0, l0 ++ l) (.returned (.tuple #[])) (w1.setCell ⟨g, 2, none⟩ v1)) := Lib.hid (fun n w1 v1 h1 h2 h3 => by
    have hne := own_ne ho hb (by decide)
    have hge := h.ge
    have hb1 : Blk w1 g _ _ := (hb.drewN n).grown h2 (by intro e; exact hne e.symm)
    have h1' : OwnB w1 B v1 (l0 ++ l) := by unfold OwnB; rw [List.length_append, bvs_append, hlen]; exact h1
    have hne1 := own_ne h1' hb1 (by decide)
    have hB1 : Below B (w.drewN n) w1 := (Below.refl _ _).grown h2 hle (fun k e => (own_at ho e).1)
    refine ⟨⟨(hb1.cell 2).trans rfl, hb1.free 2⟩, rfl, v1.ownBlock, ⟨h.ge, ⟨v1, hb1.put 2 _, own_kept h1' (by simp) (fun k hk => ?_), rfl⟩, by simp only [List.length_append]; omega, h.max⟩, ⟨((Own.below_drewN (Below.refl _ _) n).trans hB1).setCell hge _, fun k hk e1 e2 => ?_, ?_⟩⟩
    · exact Below.heap_setCell _ _ _ _ (by rintro rfl; exact hne1 hk)
    · rw [Below.heap_setCell _ _ _ _ e1, h2.block k hk (by rw [hv]; exact e2)]; rfl
    · rw [← hv]; exact h3)
  generalize l0.length = k at *
  have e1 : IntKind.i64.wrap ((m : Int) - (k : Int)) = (m : Int) - (k : Int) := IntWalk.i64_in _ (by omega)
  have ht : (len : Int) ≤ (m : Int) - (k : Int) := by omega
  clear h hb ho hv hl hroom hmax hshape hr hn hlen
  go_enter Tryz.func43, Tryz.ntmps43
  go_wp2_with fail
  go_quiet (fail)
  clear e1
  go_wp2_with (at_builtin; refine Own.wpList_append2_any _ rfl _ _ 25 rfl B 5 i0 (.int .u8 0) 1 1 Tryz.underlying25 hi hz0 hz1 hz2 rfl (by decide) (.slice rd k rcap) k _ rfl (own.out _) ad len cap (bvs l) rfl (by rw [bvs_len, Nat.mul_one, c5.out]) c3.out (c4.out _) (bvs_oneCell _) (by unfold maxLen; omega) (by omega) hle ?_; intro v' w1 hown hgrow hnew; obtain ⟨⟨k1, k2⟩, HQ⟩ := HP.out _ _ _ hown hgrow hnew; have HQ := Lib.hid HQ; obtain ⟨dd, dcap, rfl, _⟩ := Own.shape hown; clear hown hgrow hnew)
  go_returns
  exact HQ.out
theorem byte_any (g B m : Nat) (s : Int × List UInt8) (row : Option Nat) (ad : Option Addr) (len cap : Nat) (l : List UInt8) (w : World) (h : WR w B g m s row)
    (hlen : l.length = len) (hm : s.2.length + len ≤ 1000000) (hr : RdB w ad l) (hn : ad = none → cap = 0) :
    Calls Tryz.prog 43 #[.pointer (some ⟨g, 0, none⟩), .slice ad len cap] w (WPost w B g m row (wByte m s l)) := by
  obtain ⟨e, l0⟩ := s
  by_cases he : e = 0
  · subst he
    by_cases hl : m - l0.length < len
    · rw [wByte_long l rfl (by rw [hlen]; exact hl)]
      exact byte_long g B m l0 row ad len cap w h hl (by omega)
    · rw [wByte_fits l rfl (by rw [hlen]; exact hl)]
      exact byte_fits g B m l0 row ad len cap l w h hl hlen hm hr hn
  · rw [wByte_bad l he]
    exact byte_no g B m e l0 row ad len cap l w h he
theorem byte_nil (v : Value) (w : World) : Calls Tryz.prog 43 #[.pointer none, v] w fun e w' => e = .returned (.tuple #[]) ∧ w = w' := by
  go_enter Tryz.func43, Tryz.ntmps43
  go_wp2_with fail
  go_returns
  exact ⟨rfl, rfl⟩
end Go.Proofs.YtanfnhgaooafeaaGreatDoor.Buf
/-! BufC -/
namespace Go.Proofs.YtanfnhgaooafeaaGreatDoor.Buf
open Go.ChangeShapes Go.WideShapes Go.ChangeAt Go.RowKit
open Go.Proofs.YtanfnhgaooafeaaGreatDoor.Byt Go.Proofs.YtanfnhgaooafeaaGreatDoor.Units Go.Proofs.YtanfnhgaooafeaaGreatDoor.BufM
set_option linter.unusedVariables false

theorem wtell_any (g B m : Nat) (e0 e : Int) (l0 : List UInt8) (row : Option Nat) (w : World) (h : WR w B g m (e0, l0) row) :
    Calls Tryz.prog 80 #[.pointer (some ⟨g, 0, none⟩), .int .i64 e] w (WPost w B g m row (if e0 = 0 then e else e0, l0)) := by
  obtain ⟨v, hb, ho, hv⟩ := h.mem
  by_cases he : e0 = 0
  · subst he
    refine (tell_yes g _ _ e w hb rfl).mono fun en w' hh => ?_
    obtain ⟨rfl, rfl⟩ := hh
    rw [if_pos rfl]
    have hne := own_ne ho hb (by decide)
    have hge := h.ge
    refine ⟨rfl, row, ⟨h.ge, ⟨_, hb.put 0 _, own_kept ho (by simp) (fun k hk => ?_), hv⟩, h.room, h.max⟩, ⟨(Below.refl _ _).setCell hge _, fun k hk h1 h2 => ?_, .inl rfl⟩⟩
    · exact Below.heap_setCell _ _ _ _ (by rintro rfl; exact hne hk)
    · exact Below.heap_setCell _ _ _ _ h1
  · refine (tell_no g _ _ e e0 w hb rfl he).mono fun en w' hh => ?_
    obtain ⟨rfl, rfl⟩ := hh
    rw [if_neg he]
    exact ⟨rfl, row, h, WStep.refl _ _ _ _⟩
/-- A call of the writer behind what made memory alone. -/
theorem WPost.ahead {a b : World} {B g m : Nat} {row : Option Nat} {s : Int × List UInt8} {e : Ending} {c : World} (hB : Below a.heap.size a b) (hle : B ≤ a.heap.size) (h : WPost b B g m row s e c) : WPost a B g m row s e c := by
  obtain ⟨he, row', h1, h2⟩ := h
  exact ⟨he, row', h1, h2.ahead hB hle⟩
theorem WPost.ret {a : World} {B g m : Nat} {row : Option Nat} {s : Int × List UInt8} {e : Ending} {c : World} (h : WPost a B g m row s e c) : e = .returned (.tuple #[]) ∧ Hid (WPost a B g m row s (.returned (.tuple #[])) c) :=
  ⟨h.1, Lib.hid ⟨rfl, h.2⟩⟩
/-- The head of a block of bytes reads as a list. -/
theorem rd_head {w : World} {G : Nat} {t : TypeId} {cs : Array Value} {l : List UInt8} (h : Blk w G t cs) (hc : ∀ i, i < l.length → cs[i]? = some (bv (l.getD i 0))) : RdB w (some ⟨G, 0, none⟩) l :=
  .inr ⟨G, 0, rfl, fun i hi => by rw [Nat.zero_add, h.cell]; exact hc i hi⟩
theorem bytes_lit (x : Nat) (h : x < 18446744073709551616) (b0 b1 b2 b3 b4 b5 b6 b7 : UInt8) (hf : fixB x 8 = [b0, b1, b2, b3, b4, b5, b6, b7]) (w : World) :
    Calls Tryz.prog 82 #[.int .u64 (x : Int)] w fun e w' => e = .returned (.agg #[.int .u8 (b0.toNat : Int), .int .u8 (b1.toNat : Int), .int .u8 (b2.toNat : Int), .int .u8 (b3.toNat : Int), .int .u8 (b4.toNat : Int), .int .u8 (b5.toNat : Int), .int .u8 (b6.toNat : Int), .int .u8 (b7.toNat : Int)]) ∧ Below w.heap.size w w' :=
  (bytes_nat x h w).mono fun e w' hh => ⟨by rw [hh.1, hf]; rfl, hh.2⟩
set_option maxHeartbeats 400000 in
theorem fixed_any (g B m : Nat) (s : Int × List UInt8) (row : Option Nat) (x : Nat) (n : Int) (w : World) (h : WR w B g m s row) (hx : x < 18446744073709551616) (hm : s.2.length ≤ 900000) :
    Calls Tryz.prog 46 #[.pointer (some ⟨g, 0, none⟩), .int .u64 (x : Int), .int .i64 n] w (WPost w B g m row (wFix m s x n)) := by
  by_cases hn : isW n = true
  · obtain ⟨h1, h8⟩ : 1 ≤ n ∧ n ≤ 8 := of_decide_eq_true hn
    obtain ⟨k, rfl⟩ := Int.eq_ofNat_of_zero_le (show 0 ≤ n by omega)
    have hk1 : 1 ≤ k := by omega
    have hk8 : k ≤ 8 := by omega
    have hle := h.le
    obtain ⟨b0, b1, b2, b3, b4, b5, b6, b7, hf⟩ : ∃ b0 b1 b2 b3 b4 b5 b6 b7, fixB x 8 = [b0, b1, b2, b3, b4, b5, b6, b7] := ⟨_, _, _, _, _, _, _, _, rfl⟩
    have C1 := Lib.hid (bytes_lit x hx b0 b1 b2 b3 b4 b5 b6 b7 hf w)
    have CB : Hid (∀ w1 G w2, Below w.heap.size w w1 → w1.heap.size = G → w1.alloc (.cells #[.int .u8 (b0.toNat : Int), .int .u8 (b1.toNat : Int), .int .u8 (b2.toNat : Int), .int .u8 (b3.toNat : Int), .int .u8 (b4.toNat : Int), .int .u8 (b5.toNat : Int), .int .u8 (b6.toNat : Int), .int .u8 (b7.toNat : Int)] 87) = w2 →
        Calls Tryz.prog 43 #[.pointer (some ⟨g, 0, none⟩), .slice (some ⟨G, 0, none⟩) k 8] w2 (WPost w B g m row (wFix m s x k))) := Lib.hid (fun w1 G w2 hB hG h2 => by
      subst hG h2
      have hB2 := hB.alloc hB.size (.cells #[.int .u8 (b0.toNat : Int), .int .u8 (b1.toNat : Int), .int .u8 (b2.toNat : Int), .int .u8 (b3.toNat : Int), .int .u8 (b4.toNat : Int), .int .u8 (b5.toNat : Int), .int .u8 (b6.toNat : Int), .int .u8 (b7.toNat : Int)] 87)
      have hl : (fixB x k).length = k := fixB_len k x
      have := byte_any g B m s row (some ⟨w1.heap.size, 0, none⟩) k 8 (fixB x k) _ (h.kept hB2) hl (by omega) (rd_head (Blk.new w1 _ _) (fun i hi => by
        rw [← fixB_take 8 k x hk8, getD_take (by omega), hf]
        have : i < 8 := by omega
        match i, this with
        | 0, _ => rfl | 1, _ => rfl | 2, _ => rfl | 3, _ => rfl | 4, _ => rfl | 5, _ => rfl | 6, _ => rfl | 7, _ => rfl)) (fun h => by cases h)
      refine this.mono fun e w' hh => ?_
      have e1 : wFix m s x k = wByte m s (fixB x k) := by unfold wFix; rw [if_pos hn]; rfl
      rw [e1]
      exact WPost.ahead hB2 hle hh)
    have CW := Lib.hid (isWidth_any (k : Int) w)
    rw [hn] at CW
    clear h hf hn
    go_enter Tryz.func46, Tryz.ntmps46
    go_wp2_with fail
    refine (CW.out).mono ?_; rintro e w' ⟨rfl, rfl⟩
    go_wp2_with fail
    refine (C1.out).mono ?_; rintro e w1 ⟨rfl, hB1⟩
    go_wp2_with fail
    refine (CB.out _ _ _ hB1 rfl rfl).mono ?_; intro e w' hh; obtain ⟨rfl, HP⟩ := hh.ret; clear hh
    go_wp2_with fail
    go_returns
    exact HP.out
  · have hn' : isW n = false := by simpa using hn
    have CW := Lib.hid (isWidth_any n w)
    rw [hn'] at CW
    obtain ⟨e0, l0⟩ := s
    have CT := Lib.hid (wtell_any g B m e0 1 l0 row w h)
    have HF := Lib.hid (show wFix m (e0, l0) x n = (if e0 = 0 then 1 else e0, l0) by unfold wFix; rw [if_neg hn])
    clear h hn hn'
    go_enter Tryz.func46, Tryz.ntmps46
    go_wp2_with fail
    refine (CW.out).mono ?_; rintro e w' ⟨rfl, rfl⟩
    go_wp2_with fail
    refine (CT.out).mono ?_; intro e w' hh; rw [← HF.out] at hh; obtain ⟨rfl, HP⟩ := hh.ret; clear hh
    go_wp2_with fail
    go_returns
    exact HP.out
theorem fixed_nil (x : Int) (n : Int) (w : World) : Calls Tryz.prog 46 #[.pointer none, .int .u64 x, .int .i64 n] w fun e w' => e = .returned (.tuple #[]) ∧ w = w' := by
  go_enter Tryz.func46, Tryz.ntmps46
  go_wp2_with fail
  go_returns
  exact ⟨rfl, rfl⟩
/-- Seven bits with 128 more, as the walk reckons it. -/
theorem or_128 (y : Nat) (h : y < 256) : Go.bits .or .u8 (y : Int) 128 = ((y % 128 + 128 : Nat) : Int) := by
  have : ∀ z : Fin 256, Go.bits .or .u8 ((z.val : Nat) : Int) 128 = ((z.val % 128 + 128 : Nat) : Int) := by decide +kernel
  exact this ⟨y, h⟩
abbrev ten : Array Value := #[.int .u8 0, .int .u8 0, .int .u8 0, .int .u8 0, .int .u8 0, .int .u8 0, .int .u8 0, .int .u8 0, .int .u8 0, .int .u8 0]
/-- Ten bytes of which the first ones are laid. -/
def Ten (D : Array Value) (l : List UInt8) : Prop := D.size = 10 ∧ ∀ i, i < l.length → D[i]? = some (bv (l.getD i 0))
theorem Ten.put {D : Array Value} {l : List UInt8} (h : Ten D l) (hl : l.length < 10) (b : UInt8) : Ten (D.setIfInBounds l.length (bv b)) (l ++ [b]) := by
  refine ⟨by simpa using h.1, fun j hj => ?_⟩
  by_cases he : l.length = j
  · subst he
    rw [Array.getElem?_setIfInBounds_self_of_lt (by rw [h.1]; exact hl)]
    simp
  · have hj' : j < l.length := by simp at hj; omega
    rw [Array.getElem?_setIfInBounds_ne he, h.2 j hj']
    simp only [List.getD, List.getElem?_append_left hj']
/-- In sevens as far as it is written, and what is left. -/
theorem sev_go {x y : Nat} {p : List UInt8} (h : sev x = p ++ sev y) (hy : 128 ≤ y) : sev x = (p ++ [UInt8.ofNat (y % 128 + 128)]) ++ sev (y / 128) := by
  rw [h, sev_big hy]; simp
theorem sev_end {x y : Nat} {p : List UInt8} (h : sev x = p ++ sev y) (hy : y < 128) : sev x = p ++ [UInt8.ofNat y] := by
  rw [h, sev_small hy]
theorem bv_ofNat {x : Nat} (h : x < 256) : bv (UInt8.ofNat x) = .int .u8 (x : Int) := bv_of h
set_option maxRecDepth 100000 in
set_option maxHeartbeats 400000 in
theorem num_any (g B m : Nat) (s : Int × List UInt8) (row : Option Nat) (x : Nat) (w : World) (h : WR w B g m s row) (hx : x < 18446744073709551616) (hm : s.2.length ≤ 900000) :
    Calls Tryz.prog 45 #[.pointer (some ⟨g, 0, none⟩), .int .u64 (x : Int)] w (WPost w B g m row (wNum m s x)) := by
  have hle := h.le
  have CB : Hid (∀ W n D, Below w.heap.size w W → Blk W w.heap.size 86 D → n = (sev x).length → Ten D (sev x) → Calls Tryz.prog 43 #[.pointer (some ⟨g, 0, none⟩), .slice (some ⟨w.heap.size, 0, none⟩) n 10] W (WPost w B g m row (wNum m s x))) := Lib.hid (fun W n D hB hb hn hd => by
    have h10 := sev_ten hx
    exact (byte_any g B m s row (some ⟨w.heap.size, 0, none⟩) n 10 (sev x) W (h.kept hB) hn.symm (by omega) (rd_head hb hd.2) (fun h => by cases h)).mono fun e w' hh => WPost.ahead hB hle hh)
  have hs10 := sev_ten hx
  have K0 : Hid (Blk (w.alloc (.cells ten 86)) w.heap.size 86 ten) := Lib.hid (Blk.new _ _ _)
  clear h
  go_enter Tryz.func45, Tryz.ntmps45
  go_wp2_with fail
  go_loopw [1, 5] (fun xv nv wr => ∃ (y : Nat) (p : List UInt8) (D : Array Value), y < 18446744073709551616 ∧ xv = .int .u64 (y : Int) ∧ nv = .int .i64 (p.length : Int) ∧ Hid (sev x = p ++ sev y) ∧ Hid (Ten D p) ∧ Hid (Blk wr w.heap.size 86 D) ∧ Below w.heap.size w wr) (fun xv _ _ => (intOf xv).toNat)
  case atStart => exact ⟨x, [], ten, hx, rfl, rfl, Lib.hid rfl, Lib.hid ⟨rfl, fun i hi => by simp at hi⟩, K0, (Below.refl _ _).alloc (Nat.le_refl _) _⟩
  case round =>
    obtain ⟨y, p, D, hy, rfl, rfl, hS, hD, hb, hB⟩ := hrel
    have hlen := congrArg List.length hS.out
    rw [List.length_append] at hlen
    by_cases hlt : 128 ≤ y
    · have hsv := congrArg List.length (sev_big hlt)
      have hp1 := sev_pos (y / 128)
      rw [List.length_cons] at hsv
      have hp9 : p.length < 9 := by omega
      have hcell := hb.out.cell p.length
      have hfr := hb.out.free p.length
      obtain ⟨old, hold⟩ : ∃ old, D[p.length]? = some old := ⟨D[p.length]'(by rw [hD.out.1]; omega), by rw [Array.getElem?_eq_getElem]⟩
      rw [hold] at hcell
      have e1 := or_128 (y % 256) (by omega)
      rw [show y % 256 % 128 = y % 128 from by omega, show ((y % 256 : Nat) : Int) = (y : Int) % 256 from by omega] at e1
      have HS := Lib.hid (sev_go hS.out hlt)
      have HD := Lib.hid (hD.out.put (by omega) (UInt8.ofNat (y % 128 + 128)))
      have hbv := bv_ofNat (x := y % 128 + 128) (by omega)
      rw [hbv, ← e1] at HD
      have HB := Lib.hid (hb.out.put p.length (.int .u8 (Go.bits .or .u8 ((y : Int) % 256) 128)))
      clear hsv hp1 hold hlen hbv hD hS e1
      go_wp2_with fail
      go_roundw
      case rel => exact ⟨y / 128, _, _, by omega, by go_num, by rw [List.length_append]; go_num, HS, HD, HB, hB.setCell (p := ⟨w.heap.size, p.length, none⟩) (Nat.le_refl _) _⟩
      case measure => simp [intOf]; omega
    · have hlt' : y < 128 := by omega
      have hsv := congrArg List.length (sev_small hlt')
      rw [List.length_singleton] at hsv
      have hp9 : p.length ≤ 9 := by omega
      have hcell := hb.out.cell p.length
      have hfr := hb.out.free p.length
      obtain ⟨old, hold⟩ : ∃ old, D[p.length]? = some old := ⟨D[p.length]'(by rw [hD.out.1]; omega), by rw [Array.getElem?_eq_getElem]⟩
      rw [hold] at hcell
      have HS := sev_end hS.out hlt'
      have HD := hD.out.put (by omega) (UInt8.ofNat y)
      rw [← HS, bv_ofNat (x := y) (by omega)] at HD
      have HB := hb.out.put p.length (.int .u8 (y : Int))
      have hn : p.length + 1 = (sev x).length := by rw [HS, List.length_append, List.length_singleton]
      have CC := Lib.hid (CB.out _ _ _ (hB.setCell (p := ⟨w.heap.size, p.length, none⟩) (Nat.le_refl _) _) HB hn HD)
      have hp10 : (p.length : Int) + 1 ≤ 10 ∧ (0 : Int) ≤ (p.length : Int) + 1 := by omega
      obtain ⟨hp10, hp0⟩ := hp10
      clear hsv hold hlen hD hS HS HD HB hn CB
      go_wp2_with fail
      refine (CC.out).mono ?_; intro e w' hh; obtain ⟨rfl, HP⟩ := hh.ret; clear hh
      go_wp2_with fail
      go_returns
      exact HP.out
set_option maxRecDepth 100000 in
set_option maxHeartbeats 400000 in
theorem num_nil (x : Nat) (w : World) (hx : x < 18446744073709551616) : Calls Tryz.prog 45 #[.pointer none, .int .u64 (x : Int)] w fun e w' => e = .returned (.tuple #[]) ∧ Below w.heap.size w w' := by
  have hs10 := sev_ten hx
  have K0 : Hid (Blk (w.alloc (.cells ten 86)) w.heap.size 86 ten) := Lib.hid (Blk.new _ _ _)
  go_enter Tryz.func45, Tryz.ntmps45
  go_wp2_with fail
  go_loopw [1, 5] (fun xv nv wr => ∃ (y : Nat) (p : List UInt8) (D : Array Value), y < 18446744073709551616 ∧ xv = .int .u64 (y : Int) ∧ nv = .int .i64 (p.length : Int) ∧ Hid (sev x = p ++ sev y) ∧ Hid (Ten D p) ∧ Hid (Blk wr w.heap.size 86 D) ∧ Below w.heap.size w wr) (fun xv _ _ => (intOf xv).toNat)
  case atStart => exact ⟨x, [], ten, hx, rfl, rfl, Lib.hid rfl, Lib.hid ⟨rfl, fun i hi => by simp at hi⟩, K0, (Below.refl _ _).alloc (Nat.le_refl _) _⟩
  case round =>
    obtain ⟨y, p, D, hy, rfl, rfl, hS, hD, hb, hB⟩ := hrel
    have hlen := congrArg List.length hS.out
    rw [List.length_append] at hlen
    by_cases hlt : 128 ≤ y
    · have hsv := congrArg List.length (sev_big hlt)
      have hp1 := sev_pos (y / 128)
      rw [List.length_cons] at hsv
      have hp9 : p.length < 9 := by omega
      have hcell := hb.out.cell p.length
      have hfr := hb.out.free p.length
      obtain ⟨old, hold⟩ : ∃ old, D[p.length]? = some old := ⟨D[p.length]'(by rw [hD.out.1]; omega), by rw [Array.getElem?_eq_getElem]⟩
      rw [hold] at hcell
      have e1 := or_128 (y % 256) (by omega)
      rw [show y % 256 % 128 = y % 128 from by omega, show ((y % 256 : Nat) : Int) = (y : Int) % 256 from by omega] at e1
      have HS := Lib.hid (sev_go hS.out hlt)
      have HD := Lib.hid (hD.out.put (by omega) (UInt8.ofNat (y % 128 + 128)))
      have hbv := bv_ofNat (x := y % 128 + 128) (by omega)
      rw [hbv, ← e1] at HD
      have HB := Lib.hid (hb.out.put p.length (.int .u8 (Go.bits .or .u8 ((y : Int) % 256) 128)))
      clear hsv hp1 hold hlen hbv hD hS e1
      go_wp2_with fail
      go_roundw
      case rel => exact ⟨y / 128, _, _, by omega, by go_num, by rw [List.length_append]; go_num, HS, HD, HB, hB.setCell (p := ⟨w.heap.size, p.length, none⟩) (Nat.le_refl _) _⟩
      case measure => simp [intOf]; omega
    · have hlt' : y < 128 := by omega
      have hsv := congrArg List.length (sev_small hlt')
      rw [List.length_singleton] at hsv
      have hp9 : p.length ≤ 9 := by omega
      have hcell := hb.out.cell p.length
      have hfr := hb.out.free p.length
      obtain ⟨old, hold⟩ : ∃ old, D[p.length]? = some old := ⟨D[p.length]'(by rw [hD.out.1]; omega), by rw [Array.getElem?_eq_getElem]⟩
      rw [hold] at hcell
      have hp10 : (p.length : Int) + 1 ≤ 10 ∧ (0 : Int) ≤ (p.length : Int) + 1 := by omega
      obtain ⟨hp10, hp0⟩ := hp10
      have HB := Lib.hid (hB.setCell (p := ⟨w.heap.size, p.length, none⟩) (Nat.le_refl _) (.int .u8 (y : Int)))
      have CC : Hid (∀ v W, Calls Tryz.prog 43 #[.pointer none, v] W fun e w' => e = .returned (.tuple #[]) ∧ W = w') := Lib.hid (fun v W => byte_nil v W)
      clear hsv hold hlen hD hS
      go_wp2_with fail
      refine (CC.out _ _).mono ?_; rintro e w' ⟨rfl, rfl⟩
      go_wp2_with fail
      go_returns
      exact ⟨rfl, HB.out⟩
theorem wbytes_nil (w : World) : Calls Tryz.prog 72 #[.pointer none, .slice none 0 0] w fun e w' => e = .returned (.tuple #[]) ∧ Below w.heap.size w w' := by
  have C1 := Lib.hid (num_nil 0 w (by omega))
  have C2 : Hid (∀ v W, Calls Tryz.prog 43 #[.pointer none, v] W fun e w' => e = .returned (.tuple #[]) ∧ W = w') := Lib.hid (fun v W => byte_nil v W)
  go_enter Tryz.func72, Tryz.ntmps72
  go_wp2_with fail
  refine (C1.out).mono ?_; rintro e w1 ⟨rfl, hB⟩
  go_wp2_with fail
  refine (C2.out _ _).mono ?_; rintro e w' ⟨rfl, rfl⟩
  go_wp2_with fail
  go_returns
  exact ⟨rfl, hB⟩
theorem done_nil (w : World) : Calls Tryz.prog 16 #[.pointer none] w fun e w' => e = .returned (.tuple #[.slice none 0 0, .int .i64 1]) ∧ w = w' := by
  go_enter Tryz.func16, Tryz.ntmps16
  go_wp2_with fail
  go_returns
  exact ⟨rfl, rfl⟩
theorem wbytes_any (g B m : Nat) (s : Int × List UInt8) (row : Option Nat) (ad : Option Addr) (len cap : Nat) (l : List UInt8) (w : World) (h : WR w B g m s row)
    (hlen : l.length = len) (hm : s.2.length + len ≤ 900000) (hr : RdB w ad l) (hn : ad = none → cap = 0) (hsep : l ≠ [] → ∀ b o, ad = some ⟨b, o, none⟩ → b ≠ g ∧ some b ≠ row) :
    Calls Tryz.prog 72 #[.pointer (some ⟨g, 0, none⟩), .slice ad len cap] w (WPost w B g m row (wBytes m s l)) := by
  have C1 := Lib.hid (num_any g B m s row len w h (by omega) (by omega))
  have C2 : Hid (∀ e w1, WPost w B g m row (wNum m s len) e w1 → e = .returned (.tuple #[]) ∧ Calls Tryz.prog 43 #[.pointer (some ⟨g, 0, none⟩), .slice ad len cap] w1 (WPost w B g m row (wBytes m s l))) := Lib.hid (fun e w1 hh => by
    obtain ⟨he, row', k1, k2⟩ := hh
    refine ⟨he, ?_⟩
    have hl := wByte_len (m := m) (s := s) (sev len)
    have hs := sev_ten (x := len) (by omega)
    have hr1 : RdB w1 ad l := rd_kept hr fun hne b o e hb => k2.block b hb (hsep hne b o e).1 (hsep hne b o e).2
    refine (byte_any g B m (wNum m s len) row' ad len cap l w1 k1 hlen (by unfold wNum; omega) hr1 hn).mono fun e w2 hq => ?_
    obtain ⟨hq1, row2, hq2, hq3⟩ := hq
    exact ⟨hq1, row2, by unfold wBytes; rw [hlen]; exact hq2, k2.trans hq3⟩)
  clear h hr hn hlen hsep
  have hc : (len : Int) ≤ 9223372036854775807 := by omega
  go_enter Tryz.func72, Tryz.ntmps72
  go_wp2_with fail
  refine (C1.out).mono ?_; intro e w1 hh; obtain ⟨rfl, C3⟩ := C2.out _ _ hh; have C3 := Lib.hid C3; clear hh
  go_wp2_with fail
  refine (C3.out).mono ?_; intro e w' hh; obtain ⟨rfl, HP⟩ := hh.ret; clear hh
  go_wp2_with fail
  go_returns
  exact HP.out
/-- What Done leaves. -/
def DonePost (s : Int × List UInt8) (w : World) (e : Ending) (w' : World) : Prop :=
  ∃ v, e = .returned (.tuple #[v, .int .i64 s.1]) ∧ OwnB w' w.heap.size v (if s.1 = 0 then s.2 else []) ∧ Below w.heap.size w w'
theorem done_any (g B m : Nat) (s : Int × List UInt8) (row : Option Nat) (w : World) (h : WR w B g m s row) (hm : s.2.length ≤ 1000000) :
    Calls Tryz.prog 16 #[.pointer (some ⟨g, 0, none⟩)] w (DonePost s w) := by
  obtain ⟨e, l⟩ := s
  obtain ⟨v, hb, ho, hv⟩ := h.mem
  have c0 := hb.cell 0
  have c2 := hb.cell 2
  simp at c0 c2
  by_cases he : e = 0
  · subst he
    obtain ⟨rd, rcap, rfl, hshape⟩ := Own.shape ho
    have p := ho.pos
    simp only at p c2 hm
    have CF := Lib.hid (fresh_any rd l.length rcap l w rfl (by omega) ho.rd.1 p.2.2.1)
    clear h hb ho hv hshape p
    go_enter Tryz.func16, Tryz.ntmps16
    go_wp2_with fail
    refine (CF.out).mono ?_; intro e w1 hh; obtain ⟨v, rfl, ho, hB⟩ := hh
    have HO := Lib.hid ho
    have HB := Lib.hid hB
    obtain ⟨rd2, rcap2, rfl, hshape⟩ := Own.shape ho
    clear ho hB hshape
    go_wp2_with fail
    go_returns
    exact ⟨_, rfl, HO.out, HB.out⟩
  · have hne : (e != 0) = true := by simpa using he
    have HP : Hid (∀ n, DonePost (e, l) w (.returned (.tuple #[.slice none 0 0, .int .i64 e])) (w.drewN n)) := Lib.hid (fun n => ⟨_, rfl, by rw [if_neg he]; exact World.ownsRow_nil _ _ _ _, Own.below_drewN (Below.refl _ _) n⟩)
    clear h hb ho hv he
    go_enter Tryz.func16, Tryz.ntmps16
    go_wp2_with fail
    go_quiet (fail)
    go_wp2_with fail
    go_returns
    exact HP.out _
end Go.Proofs.YtanfnhgaooafeaaGreatDoor.Buf
/-! BufD -/
namespace Go.Proofs.YtanfnhgaooafeaaGreatDoor.Buf
open Go.ChangeShapes Go.WideShapes Go.ChangeAt Go.RowKit
open Go.Proofs.YtanfnhgaooafeaaGreatDoor.Byt Go.Proofs.YtanfnhgaooafeaaGreatDoor.Units Go.Proofs.YtanfnhgaooafeaaGreatDoor.BufM
set_option linter.unusedVariables false

/-- Behind a reading: what is wrong, what is left. -/
def upd (s : Int × List UInt8) (r : List UInt8 × Nat) : Int × List UInt8 := if r.2 = 0 then (s.1, r.1) else (if s.1 = 0 then (r.2 : Int) else s.1, [])
theorem upd_ok (s : Int × List UInt8) (l : List UInt8) : upd s (l, 0) = (s.1, l) := rfl
theorem upd_bad (s : Int × List UInt8) (l : List UInt8) {e : Nat} (h : e ≠ 0) : upd s (l, e) = (if s.1 = 0 then (e : Int) else s.1, []) := by unfold upd; rw [if_neg h]
/-- Where a slice lies: nowhere, or in a block below g. -/
def Lies (ad : Option Addr) (cap g : Nat) : Prop := (ad = none → cap = 0) ∧ (ad = none ∨ ∃ b off, ad = some ⟨b, off, none⟩ ∧ b < g)
theorem Lies.mono {ad : Option Addr} {cap g g' : Nat} (h : Lies ad cap g) (hg : g ≤ g') : Lies ad cap g' := by
  refine ⟨h.1, ?_⟩
  rcases h.2 with h' | ⟨b, off, e, hb⟩
  · exact .inl h'
  · exact .inr ⟨b, off, e, by omega⟩
theorem Lies.form {ad : Option Addr} {cap g : Nat} (h : Lies ad cap g) : ad = none ∨ ∃ b off, ad = some ⟨b, off, none⟩ := by
  rcases h.2 with h' | ⟨b, off, e, hb⟩
  · exact .inl h'
  · exact .inr ⟨b, off, e⟩
theorem own_lies {W : World} {base n cap : Nat} {ad : Option Addr} {l : List UInt8} (h : OwnB W base (.slice ad n cap) l) : Lies ad cap W.heap.size := by
  rcases h.2 with ⟨hv, hz⟩ | ⟨g, cap', cur, hv, hb, hg, _⟩
  · cases hv; exact ⟨fun _ => rfl, .inl rfl⟩
  · simp only [Value.slice.injEq] at hv
    obtain ⟨rfl, rfl, rfl⟩ := hv
    exact ⟨(fun h => by cases h), .inr ⟨g, 0, rfl, (Array.getElem?_eq_some_iff.1 hg).1⟩⟩
theorem Lies.nil (g : Nat) : Lies none 0 g := ⟨fun _ => rfl, .inl rfl⟩
/-- Bytes that lie below g stay while the blocks below g do. -/
theorem Lies.kept {w w' : World} {ad : Option Addr} {cap g : Nat} {l : List UInt8} (h : Lies ad cap g) (hr : RdB w ad l) (hk : ∀ b, b < g → w'.heap[b]? = w.heap[b]?) : RdB w' ad l :=
  rd_kept hr fun _ b o e _ => by
    rcases h.2 with h' | ⟨b', off, e', hb⟩
    · rw [h'] at e; cases e
    · rw [e'] at e; cases e; exact hk _ hb
/-- A slice cut behind k. -/
def cutAd (ad : Option Addr) (cap k : Nat) : Option Addr := if cap = k then ad else ad.map (·.add k)
theorem Lies.cut {ad : Option Addr} {cap g : Nat} (h : Lies ad cap g) (k : Nat) : Lies (cutAd ad cap k) (cap - k) g := by
  unfold cutAd
  split
  · rename_i e
    exact ⟨fun hh => by have := h.1 hh; omega, h.2⟩
  · rcases h.2 with h' | ⟨b, off, e, hb⟩
    · rw [h']; exact ⟨fun _ => by have := h.1 h'; omega, .inl rfl⟩
    · rw [e, Option.map_some, Addr.add_lit]; exact ⟨fun hh => (by cases hh), .inr ⟨b, off + k, rfl, hb⟩⟩
theorem rd_cut {w : World} {ad : Option Addr} {l : List UInt8} {cap g k : Nat} (hr : RdB w ad l) (hl : Lies ad cap g) (hc : l.length ≤ cap) : RdB w (cutAd ad cap k) (l.drop k) := by
  unfold cutAd
  split
  · exact .inl (List.drop_eq_nil_of_le (by omega))
  · rcases hl.2 with h' | ⟨b, off, e, _⟩
    · rw [h'] at hr
      rcases hr with h2 | ⟨b, off, e, _⟩
      · subst h2; exact .inl (by simp)
      · cases e
    · subst e
      rw [Option.map_some, Addr.add_lit]
      exact hr.drop k

/-- The reader in memory. -/
structure RR (w : World) (g : Nat) (s : Int × List UInt8) : Prop where
  mem : ∃ ad cap, Blk w g 71 #[.int .i64 s.1, .slice ad s.2.length cap] ∧ RdB w ad s.2 ∧ Lies ad cap g ∧ s.2.length ≤ cap ∧ cap ≤ 9223372036854775807
  bad : s.1 ≠ 0 → s.2 = []
  small : s.2.length ≤ 1000000
/-- What a call of the reader touches: its block. -/
structure RStep (w w' : World) (g : Nat) : Prop where
  below : Below g w w'
  block : ∀ k, g < k → k < w.heap.size → w'.heap[k]? = w.heap[k]?
theorem RStep.refl (w : World) (g : Nat) : RStep w w g := ⟨Below.refl _ _, fun _ _ _ => rfl⟩
theorem RStep.trans {a b c : World} {g : Nat} (h : RStep a b g) (k : RStep b c g) : RStep a c g := by
  have hs := h.below.size
  exact ⟨h.below.trans k.below, fun i hi h1 => by rw [k.block i hi (by omega), h.block i hi h1]⟩
theorem RStep.of_below {a b : World} {g : Nat} (h : Below a.heap.size a b) (hg : g ≤ a.heap.size) : RStep a b g := ⟨h.mono hg, fun i _ h1 => h.block i h1⟩
theorem RR.lt {w : World} {g : Nat} {s : Int × List UInt8} (h : RR w g s) : g < w.heap.size := by
  obtain ⟨ad, cap, hb, _⟩ := h.mem
  exact hb.lt
theorem RR.kept {w w' : World} {g : Nat} {s : Int × List UInt8} (h : RR w g s) (hB : Below w.heap.size w w') : RR w' g s := by
  obtain ⟨ad, cap, hb, hr, hl, h1, h2⟩ := h.mem
  exact ⟨⟨ad, cap, hb.below hB, hr.below hB, hl, h1, h2⟩, h.bad, h.small⟩
/-- The reader stays where what lies behind it is touched. -/
theorem RR.behind {w w' : World} {g : Nat} {s : Int × List UInt8} (h : RR w g s) (hk : ∀ b, b ≤ g → w'.heap[b]? = w.heap[b]?) : RR w' g s := by
  obtain ⟨ad, cap, hb, hr, hl, h1, h2⟩ := h.mem
  exact ⟨⟨ad, cap, (hk g (Nat.le_refl _)).trans hb, hl.kept hr fun b hb => hk b (by omega), hl, h1, h2⟩, h.bad, h.small⟩
/-- What a call of the reader leaves that hands nothing back. -/
def RPost (w : World) (g : Nat) (s : Int × List UInt8) (v : Value) (e : Ending) (w' : World) : Prop :=
  e = .returned v ∧ RR w' g s ∧ RStep w w' g
theorem RPost.ret {w : World} {g : Nat} {s : Int × List UInt8} {v : Value} {e : Ending} {w' : World} (h : RPost w g s v e w') : e = .returned v ∧ Hid (RR w' g s) ∧ Hid (RStep w w' g) := ⟨h.1, Lib.hid h.2.1, Lib.hid h.2.2⟩
theorem read_more (ad : Option Addr) (len cap : Nat) (l : List UInt8) (w : World) (hlen : l.length = len) (hm : len ≤ 1000000) (hr : RdB w ad l) (hn : ad = none → cap = 0) :
    Calls Tryz.prog 24 #[.slice ad len cap] w fun e w' => ∃ g, e = .returned (.pointer (some ⟨g, 0, none⟩)) ∧ RR w' g (0, l) ∧ Below w.heap.size w w' ∧ w.heap.size ≤ g ∧ w'.heap.size = g + 1 ∧
      ∀ w2, (∀ k, w.heap.size ≤ k → k < w'.heap.size → w2.heap[k]? = w'.heap[k]?) → RR w2 g (0, l) := by
  have CF := Lib.hid (fresh_any ad len cap l w hlen (by omega) hr hn)
  have hl : l.length ≤ 1000000 := by omega
  clear hlen hr hn
  go_enter Tryz.func24, Tryz.ntmps24
  go_wp2_with fail
  refine (CF.out).mono ?_; intro e w1 hh; obtain ⟨v, rfl, ho, hB⟩ := hh
  obtain ⟨rd2, rcap2, rfl, hshape⟩ := Own.shape ho
  have HP : Hid (RR (w1.alloc (.cells #[.int .i64 0, .slice rd2 l.length rcap2] 71)) w1.heap.size (0, l) ∧ Below w.heap.size w (w1.alloc (.cells #[.int .i64 0, .slice rd2 l.length rcap2] 71)) ∧ w.heap.size ≤ w1.heap.size ∧
      ∀ w2, (∀ k, w.heap.size ≤ k → k < (w1.alloc (.cells #[.int .i64 0, .slice rd2 l.length rcap2] 71)).heap.size → w2.heap[k]? = (w1.alloc (.cells #[.int .i64 0, .slice rd2 l.length rcap2] 71)).heap[k]?) → RR w2 w1.heap.size (0, l)) := Lib.hid (by
    have hp := ho.pos
    unfold maxLen at hp
    have hm2 : Below w1.heap.size w1 (w1.alloc (.cells #[.int .i64 0, .slice rd2 l.length rcap2] 71)) := (Below.refl _ _).alloc (Nat.le_refl _) _
    have hRR : RR (w1.alloc (.cells #[.int .i64 0, .slice rd2 l.length rcap2] 71)) w1.heap.size (0, l) := ⟨⟨rd2, rcap2, Blk.new _ _ _, ho.rd.1.below hm2, own_lies ho, hp.1, by omega⟩, fun h => absurd rfl h, hl⟩
    refine ⟨hRR, hB.alloc hB.size _, hB.size, fun w2 hk => ?_⟩
    refine ⟨⟨rd2, rcap2, (hk _ hB.size (by simp)).trans (Blk.new _ _ _), rd_kept (ho.rd.1.below hm2) (fun hne b o e hb => ?_), own_lies ho, hp.1, by omega⟩, fun h => absurd rfl h, hl⟩
    refine hk b ?_ hb
    have := (own_at (k := b) ho (by rw [e]; rfl)).1
    exact this)
  clear ho hB hshape
  go_wp2_with fail
  go_ret
  exact ⟨_, rfl, HP.out.1, HP.out.2.1, HP.out.2.2.1, by simp, HP.out.2.2.2⟩
theorem read_any (ad : Option Addr) (len cap : Nat) (l : List UInt8) (w : World) (hlen : l.length = len) (hm : len ≤ 1000000) (hr : RdB w ad l) (hn : ad = none → cap = 0) :
    Calls Tryz.prog 24 #[.slice ad len cap] w fun e w' => ∃ g, e = .returned (.pointer (some ⟨g, 0, none⟩)) ∧ RR w' g (0, l) ∧ Below w.heap.size w w' ∧ w.heap.size ≤ g ∧ w'.heap.size = g + 1 :=
  (read_more ad len cap l w hlen hm hr hn).mono fun e w' hh => by
    obtain ⟨g, h1, h2, h3, h4, h5, _⟩ := hh
    exact ⟨g, h1, h2, h3, h4, h5⟩
theorem fail_any (g : Nat) (s : Int × List UInt8) (e : Int) (w : World) (h : RR w g s) :
    Calls Tryz.prog 94 #[.pointer (some ⟨g, 0, none⟩), .int .i64 e] w (RPost w g (if s.1 = 0 then e else s.1, []) (.tuple #[])) := by
  obtain ⟨e0, l⟩ := s
  obtain ⟨ad, cap, hb, hr, hl, hc, hm⟩ := h.mem
  have HN : Hid (Blk w g 71 #[.int .i64 e0, .slice ad l.length cap]) := Lib.hid hb
  have key : ∀ x W, Blk W g 71 #[.int .i64 x, .slice ad l.length cap] → (∀ k, k ≠ g → W.heap[k]? = w.heap[k]?) → Below g w W → W.heap.size = w.heap.size → (W.cell? ⟨g, 1, none⟩ = some (.slice ad l.length cap) ∧ W.frozen? ⟨g, 1, none⟩ = false) ∧ Hid (RPost w g (x, []) (.tuple #[]) (.returned (.tuple #[])) (W.setCell ⟨g, 1, none⟩ (.slice none 0 0))) := by
    intro x W hB hk hbl hsz
    refine ⟨⟨(hB.cell 1).trans rfl, hB.free 1⟩, Lib.hid ⟨rfl, ⟨⟨none, 0, hB.put 1 _, .inl rfl, Lies.nil g, by simp, by omega⟩, fun _ => rfl, by simp⟩, ⟨hbl.setCell (p := ⟨g, 1, none⟩) (Nat.le_refl _) _, fun k h1 h2 => ?_⟩⟩⟩
    rw [Below.heap_setCell _ _ _ _ (show k ≠ g by omega), hk k (by omega)]
  by_cases he : e0 = 0
  · subst he
    have CT := Lib.hid (tell_yes g _ _ e w hb rfl)
    obtain ⟨⟨c1, f1⟩, HP⟩ := key e (w.setCell ⟨g, 0, none⟩ (.int .i64 e)) (hb.put 0 _) (fun k hk => Below.heap_setCell _ _ _ _ hk) ((Below.refl _ _).setCell (p := ⟨g, 0, none⟩) (Nat.le_refl _) _) (by simp [World.setCell])
    have h0 : (if ((0 : Int), l).1 = 0 then e else ((0 : Int), l).1) = e := rfl
    rw [h0]
    clear h hb hr hl hc hm key h0
    go_enter Tryz.func94, Tryz.ntmps94
    go_wp2_with fail
    refine (CT.out).mono ?_; rintro en w' ⟨rfl, rfl⟩
    go_wp2_with fail
    go_returns
    exact HP.out
  · have CT := Lib.hid (tell_no g _ _ e e0 w hb rfl he)
    obtain ⟨⟨c1, f1⟩, HP⟩ := key e0 w hb (fun k hk => rfl) (Below.refl _ _) rfl
    have h0 : (if (e0, l).1 = 0 then e else (e0, l).1) = e0 := if_neg he
    rw [h0]
    clear h hb hr hl hc hm key h0
    go_enter Tryz.func94, Tryz.ntmps94
    go_wp2_with fail
    refine (CT.out).mono ?_; rintro en w' ⟨rfl, rfl⟩
    go_wp2_with fail
    go_returns
    exact HP.out
theorem left_any (g : Nat) (s : Int × List UInt8) (w : World) (h : RR w g s) :
    Calls Tryz.prog 86 #[.pointer (some ⟨g, 0, none⟩)] w fun e w' => e = .returned (.int .i64 (s.2.length : Int)) ∧ w = w' := by
  obtain ⟨ad, cap, hb, hr, hl, hc, hm⟩ := h.mem
  have c1 := hb.cell 1
  simp at c1
  clear h hb hr hl hc hm
  go_enter Tryz.func86, Tryz.ntmps86
  go_wp2_with fail
  go_ret
  exact ⟨rfl, rfl⟩
theorem left_nil (w : World) : Calls Tryz.prog 86 #[.pointer none] w fun e w' => e = .returned (.int .i64 0) ∧ w = w' := by
  go_enter Tryz.func86, Tryz.ntmps86
  go_wp2_with fail
  go_ret
  exact ⟨rfl, rfl⟩
theorem err_any (g : Nat) (s : Int × List UInt8) (w : World) (h : RR w g s) :
    Calls Tryz.prog 69 #[.pointer (some ⟨g, 0, none⟩)] w fun e w' => e = .returned (.int .i64 s.1) ∧ w = w' := by
  obtain ⟨ad, cap, hb, hr, hl, hc, hm⟩ := h.mem
  have c0 := hb.cell 0
  simp at c0
  clear h hb hr hl hc hm
  go_enter Tryz.func69, Tryz.ntmps69
  go_wp2_with fail
  go_ret
  exact ⟨rfl, rfl⟩
theorem err_nil (w : World) : Calls Tryz.prog 69 #[.pointer none] w fun e w' => e = .returned (.int .i64 1) ∧ w = w' := by
  go_enter Tryz.func69, Tryz.ntmps69
  go_wp2_with fail
  go_ret
  exact ⟨rfl, rfl⟩
theorem end_any (g : Nat) (s : Int × List UInt8) (w : World) (h : RR w g s) :
    Calls Tryz.prog 57 #[.pointer (some ⟨g, 0, none⟩)] w fun e w' => e = .returned (.int .i64 (if s.2 = [] then s.1 else 5)) ∧ w = w' := by
  obtain ⟨e0, l⟩ := s
  have CL := Lib.hid (left_any g _ w h)
  have CE := Lib.hid (err_any g _ w h)
  clear h
  cases l with
  | nil =>
    go_enter Tryz.func57, Tryz.ntmps57
    go_wp2_with fail
    refine (CL.out).mono ?_; rintro en w' ⟨rfl, rfl⟩
    go_wp2_with fail
    refine (CE.out).mono ?_; rintro en w' ⟨rfl, rfl⟩
    go_wp2_with fail
    go_ret
    exact ⟨rfl, rfl⟩
  | cons b l =>
    have hp : 0 < (b :: l).length := by simp
    have hn : (b :: l) ≠ [] := by simp
    generalize b :: l = m at *
    have hp' : (0 : Int) < (m.length : Int) := by omega
    go_enter Tryz.func57, Tryz.ntmps57
    go_wp2_with fail
    refine (CL.out).mono ?_; rintro en w' ⟨rfl, rfl⟩
    go_wp2_with fail
    go_ret
    exact ⟨rfl, rfl⟩
theorem end_nil (w : World) : Calls Tryz.prog 57 #[.pointer none] w fun e w' => e = .returned (.int .i64 1) ∧ w = w' := by
  have CL := Lib.hid (left_nil w)
  have CE := Lib.hid (err_nil w)
  go_enter Tryz.func57, Tryz.ntmps57
  go_wp2_with fail
  refine (CL.out).mono ?_; rintro en w' ⟨rfl, rfl⟩
  go_wp2_with fail
  refine (CE.out).mono ?_; rintro en w' ⟨rfl, rfl⟩
  go_wp2_with fail
  go_ret
  exact ⟨rfl, rfl⟩
/-- What take hands back: so many bytes, or none. -/
def TakePost (w : World) (g n : Nat) (s : Int × List UInt8) (e : Ending) (w' : World) : Prop :=
  ∃ ad cap t, Hid (t = if s.2.length < n then [] else s.2.take n) ∧ e = .returned (.slice ad t.length cap) ∧ RdB w' ad t ∧ Lies ad cap g ∧ t.length ≤ cap ∧ cap ≤ 9223372036854775807 ∧ RR w' g (upd s (if s.2.length < n then ([], 3) else (s.2.drop n, 0))) ∧ RStep w w' g
theorem take_any (g n : Nat) (s : Int × List UInt8) (w : World) (h : RR w g s) (hn : n ≤ 9223372036854775807) :
    Calls Tryz.prog 95 #[.pointer (some ⟨g, 0, none⟩), .int .i64 (n : Int)] w (TakePost w g n s) := by
  obtain ⟨e0, l⟩ := s
  obtain ⟨ad, cap, hb, hr, hl, hc, hm⟩ := h.mem
  have c1 := hb.cell 1
  have f1 := hb.free 1
  simp at c1
  by_cases hlt : l.length < n
  · have CF := Lib.hid (fail_any g (e0, l) 3 w h)
    have HP : Hid (∀ w', RR w' g (if e0 = 0 then 3 else e0, []) → RStep w w' g → TakePost w g n (e0, l) (.returned (.slice none 0 0)) w') := Lib.hid (fun w' h1 h2 => by
      unfold TakePost
      simp only [hlt, if_true]
      exact ⟨none, 0, [], Lib.hid rfl, rfl, .inl rfl, Lies.nil g, by simp, by omega, h1, h2⟩)
    have ht : (l.length : Int) < (n : Int) := by omega
    simp only at c1 CF
    generalize l.length = k at *
    clear h hb hr hl hc hm hlt
    go_enter Tryz.func95, Tryz.ntmps95
    go_wp2_with fail
    refine (CF.out).mono ?_; intro en w1 hh; obtain ⟨rfl, H1, H2⟩ := hh.ret; clear hh
    go_wp2_with fail
    go_ret
    exact HP.out _ H1.out H2.out
  · have HP : Hid (TakePost w g n (e0, l) (.returned (.slice ad n cap)) (w.setCell ⟨g, 1, none⟩ (.slice (cutAd ad cap n) (l.length - n) (cap - n)))) := Lib.hid (by
      have hk : ∀ b, b < g → (w.setCell ⟨g, 1, none⟩ (.slice (cutAd ad cap n) (l.length - n) (cap - n))).heap[b]? = w.heap[b]? := fun b hb => Below.heap_setCell _ _ _ _ (show b ≠ g by omega)
      unfold TakePost
      simp only [hlt, if_false]
      simp only at hc
      have hln : (l.take n).length = n := by rw [List.length_take]; omega
      refine ⟨ad, cap, l.take n, Lib.hid rfl, by rw [hln], hl.kept (hr.take n) hk, hl, by rw [hln]; omega, hm, ⟨⟨cutAd ad cap n, cap - n, ?_, ?_, hl.cut n, ?_, by omega⟩, ?_, ?_⟩, ⟨(Below.refl _ _).setCell (p := ⟨g, 1, none⟩) (Nat.le_refl _) _, fun k h1 h2 => Below.heap_setCell _ _ _ _ (show k ≠ g by omega)⟩⟩
      · have := hb.put 1 (.slice (cutAd ad cap n) (l.length - n) (cap - n))
        rw [upd_ok, List.length_drop]
        exact this
      · rw [upd_ok]; exact (hl.cut n).kept (rd_cut hr hl hc) hk
      · rw [upd_ok, List.length_drop]; omega
      · rw [upd_ok]; intro he; have := h.bad he; simp only at this; rw [this]; simp
      · have := h.small; rw [upd_ok, List.length_drop]; simp only at this; omega)
    have ht : (n : Int) ≤ (l.length : Int) := by omega
    have hc' : (n : Int) ≤ (cap : Int) := by simp only at hc; omega
    have hcp : (l.length : Nat) ≤ cap := hc
    unfold cutAd at HP
    generalize l.length = k at *
    clear h hb hr hl hc hlt
    by_cases hcn : cap = n
    · rw [if_pos hcn] at HP
      obtain rfl : k = n := by omega
      obtain rfl : cap = k := hcn
      rw [Nat.sub_self] at HP
      go_enter Tryz.func95, Tryz.ntmps95
      go_wp2_with fail
      go_ret
      exact HP.out
    · rw [if_neg hcn] at HP
      go_enter Tryz.func95, Tryz.ntmps95
      go_wp2_with fail
      go_ret
      exact HP.out
end Go.Proofs.YtanfnhgaooafeaaGreatDoor.Buf
/-! BufE -/
namespace Go.Proofs.YtanfnhgaooafeaaGreatDoor.Buf
open Go.ChangeShapes Go.WideShapes Go.ChangeAt Go.RowKit
open Go.Proofs.YtanfnhgaooafeaaGreatDoor.Byt Go.Proofs.YtanfnhgaooafeaaGreatDoor.Units Go.Proofs.YtanfnhgaooafeaaGreatDoor.BufM
set_option linter.unusedVariables false

/-- What a call of the reader leaves that hands a value back. -/
def fixS (s : Int × List UInt8) (n : Int) : Int × List UInt8 := upd s (getF s.2 n).2
theorem fixN_zeros : ∀ (l : List UInt8) (k : Nat), fixN (l ++ List.replicate k 0) = fixN l
  | [], 0 => rfl
  | [], k + 1 => by
    show fixN (0 :: List.replicate k 0) = 0
    rw [fixN, show fixN (List.replicate k 0) = 0 from by have := fixN_zeros [] k; rwa [List.nil_append] at this]; rfl
  | b :: l, k => by rw [List.cons_append, fixN, fixN_zeros l k, fixN]
abbrev eight : List Value := [.int .u8 0, .int .u8 0, .int .u8 0, .int .u8 0, .int .u8 0, .int .u8 0, .int .u8 0, .int .u8 0]
theorem eight_splice (t : List UInt8) (h : t.length ≤ 8) : splice eight 0 (bvs t) = bvs (t ++ List.replicate (8 - t.length) 0) := by
  have e : eight = bvs (List.replicate 8 0) := rfl
  unfold splice
  rw [e, List.take_zero, List.nil_append, bvs_append, bvs_len]
  congr 1
  rw [Nat.zero_add]
  show (bvs (List.replicate 8 0)).drop t.length = _
  unfold bvs
  rw [← List.map_drop, List.drop_replicate]
theorem infoByte1 : (Tryz.prog.info? 5).map (·.size) = some 1 := by kernel_rfl
theorem infoEight : (Tryz.prog.info? 87).map (·.size) = some 8 := by kernel_rfl
theorem min8 {n : Nat} (h : n ≤ 8) : n = Nat.min n 8 := (Nat.min_eq_left h).symm
theorem RStep.more {a b c : World} {g : Nat} (h : RStep a b g) (k : Below a.heap.size b c) (hg : g < a.heap.size) : RStep a c g :=
  ⟨h.below.trans (k.mono (by omega)), fun i h1 h2 => by rw [k.block i h2, h.block i h1 h2]⟩
theorem RR.more {a b c : World} {g : Nat} {s : Int × List UInt8} (h : RR b g s) (k : Below a.heap.size b c) (hg : g < a.heap.size) : RR c g s := h.behind fun b hb => k.block b (by omega)
def SrcOk (w3 : World) (G : Nat) (ad : Option Addr) (cs : List Value) : Prop :=
  0 < cs.length → some (⟨G, 0, none⟩ : Addr) = some ⟨G, 0, none⟩ ∧ ∃ ad', ad = some ad' ∧ ∀ j v, cs[j]? = some v → w3.cell? (ad'.add j) = some v
set_option maxRecDepth 100000 in
set_option maxHeartbeats 400000 in
theorem rfixed_yes (g : Nat) (s : Int × List UInt8) (n : Nat) (w : World) (h : RR w g s) (h1 : 1 ≤ n) (h8 : n ≤ 8) :
    Calls Tryz.prog 93 #[.pointer (some ⟨g, 0, none⟩), .int .i64 (n : Int)] w (RPost w g (fixS s n) (.int .u64 (((getF s.2 n).1 : Nat) : Int))) := by
  have hlt := h.lt
  have CW := Lib.hid (isWidth_any (n : Int) w)
  rw [show isW (n : Int) = true from decide_eq_true (by omega)] at CW
  have hB0 : Below w.heap.size w (w.alloc (.cells eight.toArray 87)) := (Below.refl _ _).alloc (Nat.le_refl _) _
  have CT := Lib.hid (take_any g n s _ (h.kept hB0.drew) (by omega))
  have HP : Hid (∀ w3 w4 w5 t, (t = if s.2.length < n then [] else s.2.take n) → RR w3 g (upd s (if s.2.length < n then ([], 3) else (s.2.drop n, 0))) → RStep (w.alloc (.cells eight.toArray 87)).drew w3 g → Below w.heap.size w3 w4 → Below w4.heap.size w4 w5 →
      RPost w g (fixS s n) (.int .u64 (((getF s.2 n).1 : Nat) : Int)) (.returned (.int .u64 ((fixN t : Nat) : Int))) w5) := Lib.hid (fun w3 w4 w5 t ht hr hs hb4 hb5 => by
    have e : getF s.2 n = (fixN t, if s.2.length < n then ([], 3) else (s.2.drop n, 0)) := by
      unfold getF
      rw [if_neg (by omega)]
      by_cases hl : s.2.length < n
      · rw [if_pos (by omega), ht, if_pos hl, if_pos hl]; rfl
      · rw [if_neg (by omega), ht, if_neg hl, if_neg hl, Int.toNat_natCast]
    have hs3 : RStep w w3 g := (RStep.of_below hB0.drew (by omega)).trans hs
    have hb35 : Below w.heap.size w3 w5 := hb4.trans (hb5.mono (by have := hs3.below.size; have := hb4.size; omega))
    refine ⟨by rw [e], ?_, hs3.more hb35 hlt⟩
    unfold fixS
    rw [e]
    exact hr.more hb35 hlt)
  have HK : Hid (∀ w3, RStep (w.alloc (.cells eight.toArray 87)).drew w3 g → w3.heap[w.heap.size]? = some (.cells eight.toArray 87 (0, 0)) ∧ w.heap.size ≤ w3.heap.size) := Lib.hid (fun w3 hs => by
    have hsz := hs.below.size
    simp at hsz
    exact ⟨(hs.block _ hlt (by simp)).trans (Blk.new _ _ _), by omega⟩)
  have HC : Hid (∀ w3 ad cap t, (t = if s.2.length < n then [] else s.2.take n) → RdB w3 ad t → Lies ad cap g → t.length ≤ cap → RR w3 g (upd s (if s.2.length < n then ([], 3) else (s.2.drop n, 0))) → RStep (w.alloc (.cells eight.toArray 87)).drew w3 g →
      Hid (w3.heap[w.heap.size]? = some (.cells eight.toArray 87 (0, 0))) ∧ Hid ((bvs t).length = Nat.min t.length 8) ∧ Hid (SrcOk w3 w.heap.size ad (bvs t)) ∧ Hid (0 + (bvs t).length ≤ eight.length) ∧
      Hid (∀ w4 w5, Below w.heap.size w3 w4 → Below w4.heap.size w4 w5 → RPost w g (fixS s n) (.int .u64 (((getF s.2 n).1 : Nat) : Int)) (.returned (.int .u64 ((fixN t : Nat) : Int))) w5)) := Lib.hid (fun w3 ad cap t ht hrd hl hc hr hs => by
    have ht8 : t.length ≤ 8 := by
      rw [ht]; split
      · simp
      · rw [List.length_take]; omega
    refine ⟨Lib.hid (HK.out w3 hs).1, Lib.hid (by rw [bvs_len]; exact min8 ht8), Lib.hid (fun h0 => ⟨rfl, ?_⟩), Lib.hid (by rw [bvs_len]; simp; exact ht8), Lib.hid (fun w4 w5 h4 h5 => HP.out w3 w4 w5 t ht hr hs h4 h5)⟩
    rw [bvs_len] at h0
    rcases hl.2 with h' | ⟨b, off, e, _⟩
    · rcases hrd with h2 | ⟨b, off, e, _⟩
      · rw [h2] at h0; simp at h0
      · rw [h'] at e; cases e
    · exact ⟨_, e, hrd.cells _ e⟩)
  have HN : Hid (∀ t : List UInt8, t.length ≤ 8 → ∀ W, Calls Tryz.prog 102 #[.agg (splice eight 0 (bvs t)).toArray] W fun e w' => e = .returned (.int .u64 ((fixN t : Nat) : Int)) ∧ Below W.heap.size W w') := Lib.hid (fun t ht W => by
    rw [eight_splice t ht]
    have := number_nat (t ++ List.replicate (8 - t.length) 0) (by rw [List.length_append, List.length_replicate]; omega) W
    rw [fixN_zeros] at this
    exact this)
  have HSz : Hid (∀ t : List UInt8, t.length ≤ 8 → (splice eight 0 (bvs t)).toArray.size = 8) := Lib.hid (fun t ht => by
    rw [eight_splice t ht, List.size_toArray, bvs_len, List.length_append, List.length_replicate]; omega)
  clear h hB0
  go_enter Tryz.func93, Tryz.ntmps93
  go_wp2_with fail
  refine (CW.out).mono ?_; rintro e w' ⟨rfl, rfl⟩
  go_wp2_with fail
  refine wp_region_noPanic ?_
  go_region_held_law (fun W => True) (trivial) (first
    | (go_at_call 95; refine (CT.out).mono ?_; intro e w3 hh; obtain ⟨ad, cap, t, ht, rfl, hrd, hlies, hcap, hcm, hrr, hst⟩ := hh; obtain ⟨K1, K2, K3, K4, HQ⟩ := HC.out _ _ _ _ ht.out hrd hlies hcap hrr hst; clear hrd hrr hst)
    | (refine step_copy_splice rfl (.tmp 13) (.tmp 16) 25 25 (by rfl) 5 Tryz.underlying25 infoByte1 _ ad 8 8 t.length cap (by rfl) (by rfl) w.heap.size 0 eight 87 K1.out (bvs t) K2.out K3.out K4.out (bvs_oneCell _) w.heap.size w3 (Below.refl _ _) (Nat.le_refl _) ?_; intro w4 hb4 hB4))
  refine NoPanic.normal ?_
  have ht8 : t.length ≤ 8 := by have := K4.out; rw [bvs_len] at this; simpa using this
  have hsz := HSz.out t ht8
  have CN := Lib.hid (HN.out t ht8)
  have HQ := Lib.hid (fun w5 h5 => HQ.out w4 w5 hB4 h5)
  have hb4 := Lib.hid hb4.out
  clear HN HSz HP HK HC CT hB4 K1 K2 K3 K4 ht
  generalize (splice eight 0 (bvs t)).toArray = cs at *
  generalize fixN t = x at *
  have HS := Lib.hid (show (Tryz.prog.info? 87).map (·.size) = some cs.size by rw [hsz]; exact infoEight)
  clear hsz
  go_wp2_with (refine wpList_load_row rfl 87 _ rfl _ rfl _ cs _ _ hb4.out Tryz.underlying87 rfl HS.out ?_)
  refine (CN.out _).mono ?_; rintro e w5 ⟨rfl, hB5⟩
  have HQ := Lib.hid (HQ.out w5 hB5)
  go_wp2_with fail
  go_ret
  exact HQ.out
theorem rfixed_no (g : Nat) (s : Int × List UInt8) (n : Int) (w : World) (h : RR w g s) (hn : ¬ (1 ≤ n ∧ n ≤ 8)) :
    Calls Tryz.prog 93 #[.pointer (some ⟨g, 0, none⟩), .int .i64 n] w (RPost w g (fixS s n) (.int .u64 (((getF s.2 n).1 : Nat) : Int))) := by
  have CW := Lib.hid (isWidth_any n w)
  rw [show isW n = false from decide_eq_false hn] at CW
  have CF := Lib.hid (fail_any g s 1 w h)
  have e : getF s.2 n = (0, [], 1) := by unfold getF; rw [if_pos (by omega)]
  have HP : Hid (∀ w', RR w' g (if s.1 = 0 then 1 else s.1, []) → RStep w w' g → RPost w g (fixS s n) (.int .u64 (((getF s.2 n).1 : Nat) : Int)) (.returned (.int .u64 0)) w') := Lib.hid (fun w' h1 h2 => by
    refine ⟨by rw [e]; rfl, ?_, h2⟩
    unfold fixS
    rw [e]
    exact h1)
  clear h e hn
  go_enter Tryz.func93, Tryz.ntmps93
  go_wp2_with fail
  refine (CW.out).mono ?_; rintro e w' ⟨rfl, rfl⟩
  go_wp2_with fail
  refine (CF.out).mono ?_; intro en w1 hh; obtain ⟨rfl, H1, H2⟩ := hh.ret; clear hh
  go_wp2_with fail
  go_ret
  exact HP.out _ H1.out H2.out
theorem rfixed_any (g : Nat) (s : Int × List UInt8) (n : Int) (w : World) (h : RR w g s) :
    Calls Tryz.prog 93 #[.pointer (some ⟨g, 0, none⟩), .int .i64 n] w (RPost w g (fixS s n) (.int .u64 (((getF s.2 n).1 : Nat) : Int))) := by
  by_cases hn : 1 ≤ n ∧ n ≤ 8
  · obtain ⟨k, rfl⟩ := Int.eq_ofNat_of_zero_le (show 0 ≤ n by omega)
    exact rfixed_yes g s k w h (by omega) (by omega)
  · exact rfixed_no g s n w h hn
theorem rfixed_nil (n : Int) (w : World) : Calls Tryz.prog 93 #[.pointer none, .int .i64 n] w fun e w' => e = .returned (.int .u64 0) ∧ w = w' := by
  go_enter Tryz.func93, Tryz.ntmps93
  go_wp2_with fail
  go_ret
  exact ⟨rfl, rfl⟩
theorem getF_byte (l : List UInt8) : (getF l 1).1 < 256 := by
  unfold getF
  rw [if_neg (by omega)]
  split
  · simp
  · have := fixN_lt (l.take (1 : Int).toNat)
    have h1 : (l.take (1 : Int).toNat).length ≤ 1 := by rw [List.length_take]; omega
    have := Nat.pow_le_pow_right (show 0 < 256 by omega) h1
    simp only; omega
theorem rbyte_any (g : Nat) (s : Int × List UInt8) (w : World) (h : RR w g s) :
    Calls Tryz.prog 98 #[.pointer (some ⟨g, 0, none⟩)] w (RPost w g (fixS s 1) (.int .u8 (((getF s.2 1).1 : Nat) : Int))) := by
  have C := Lib.hid (rfixed_any g s 1 w h)
  have hb := getF_byte s.2
  have HV : Hid (∀ v w', v = .int .u8 (((getF s.2 1).1 : Nat) : Int) → RR w' g (fixS s 1) → RStep w w' g → RPost w g (fixS s 1) (.int .u8 (((getF s.2 1).1 : Nat) : Int)) (.returned v) w') := Lib.hid (fun v w' hv h1 h2 => ⟨by rw [hv], h1, h2⟩)
  clear h
  generalize (getF s.2 1).1 = x at *
  go_enter Tryz.func98, Tryz.ntmps98
  go_wp2_with fail
  refine (C.out).mono ?_; intro en w1 hh; obtain ⟨rfl, H1, H2⟩ := hh.ret; clear hh
  go_wp2_with fail
  go_ret
  exact HV.out _ _ rfl H1.out H2.out
theorem rbyte_nil (w : World) : Calls Tryz.prog 98 #[.pointer none] w fun e w' => e = .returned (.int .u8 0) ∧ w = w' := by
  have C := Lib.hid (rfixed_nil 1 w)
  go_enter Tryz.func98, Tryz.ntmps98
  go_wp2_with fail
  refine (C.out).mono ?_; rintro e w' ⟨rfl, rfl⟩
  go_wp2_with fail
  go_ret
  exact ⟨rfl, rfl⟩
end Go.Proofs.YtanfnhgaooafeaaGreatDoor.Buf
/-! BufF -/
namespace Go.Proofs.YtanfnhgaooafeaaGreatDoor.Buf
open Go.ChangeShapes Go.WideShapes Go.ChangeAt Go.RowKit
open Go.Proofs.YtanfnhgaooafeaaGreatDoor.Byt Go.Proofs.YtanfnhgaooafeaaGreatDoor.Units Go.Proofs.YtanfnhgaooafeaaGreatDoor.BufM
set_option linter.unusedVariables false

def numS (s : Int × List UInt8) : Int × List UInt8 := upd s (getN s.2).2
theorem nat_pow7 (k : Nat) : (128 : Nat) ^ k = 2 ^ (7 * k) := by rw [Nat.pow_mul]
theorem take_snocN {l : List UInt8} {k : Nat} (hk : k < l.length) : sevN (l.take (k + 1)) = sevN (l.take k) + (l.getD k 0).toNat % 128 * 128 ^ k := by
  rw [take_snoc hk, sevN_snoc, List.length_take, Nat.min_eq_left (by omega)]
theorem pow7_le {k : Nat} (h : k ≤ 8) : (128 : Nat) ^ k ≤ 128 ^ 8 := Nat.pow_le_pow_right (by omega) h
/-- Seven bits laid above what lies below, as the walk reckons it. -/
theorem or_seven (x y k : Nat) (hx : x < 128 ^ k) (hy : y * 128 ^ k < 18446744073709551616) (hk : k ≤ 9) : Go.bits .or .u64 (x : Int) ((y * 128 ^ k : Nat) : Int) = ((x + y * 128 ^ k : Nat) : Int) := by
  have h9 : (128 : Nat) ^ k ≤ 128 ^ 9 := Nat.pow_le_pow_right (by omega) hk
  rw [Bits.or_comm_u64, Bits.or_u64 _ _ (7 * k) (by omega) (by omega) (by rw [nat_pow7] at hx; exact_mod_cast hx) (by rw [nat_pow7]; exact_mod_cast Nat.mul_mod_left y (2 ^ (7 * k))) (by omega) (by omega)]
  omega
theorem or_u64_nat (a b : Int) : ∃ n : Nat, n < 18446744073709551616 ∧ Go.bits .or .u64 a b = (n : Int) := by
  have h : Go.bits .or .u64 a b = IntKind.u64.wrap (((BitVec.ofInt 64 a ||| BitVec.ofInt 64 b).toNat : Nat) : Int) := rfl
  rw [h, IntKind.wrap_u64]
  exact ⟨((((BitVec.ofInt 64 a ||| BitVec.ofInt 64 b).toNat : Nat) : Int) % 18446744073709551616).toNat, by omega, by omega⟩
theorem wrap_seven (y k : Nat) (hy : y * 128 ^ k < 18446744073709551616) : IntKind.u64.wrap ((y : Int) * 2 ^ (7 * k)) = ((y * 128 ^ k : Nat) : Int) := by
  have e : (y : Int) * 2 ^ (7 * k) = ((y * 128 ^ k : Nat) : Int) := by rw [nat_pow7]; push_cast; rfl
  rw [e, IntKind.wrap_u64]; omega
theorem or_go (x y k : Nat) (hx : x < 128 ^ k) (hy : y * 128 ^ k < 18446744073709551616) (hk : k ≤ 9) : Go.bits .or .u64 (x : Int) (IntKind.u64.wrap ((y : Int) * 2 ^ (7 * k))) = ((x + y * 128 ^ k : Nat) : Int) := by
  rw [wrap_seven y k hy, or_seven x y k hx hy hk]
theorem seven_lt8 {y k : Nat} (hy : y < 128) (hk : k ≤ 8) : y * 128 ^ k < 18446744073709551616 := by
  have h := pow7_le hk
  have := Nat.mul_le_mul (show y ≤ 127 by omega) h
  omega
theorem seven_lt9 {y : Nat} (hy : y ≤ 1) : y * 128 ^ 9 < 18446744073709551616 := by
  have := Nat.mul_le_mul_right (128 ^ 9) hy
  omega
theorem sub_128 {y : Nat} (h : 128 ≤ y) : ((y : Int) - 128) = ((y - 128 : Nat) : Int) := by omega
set_option maxRecDepth 100000 in
set_option maxHeartbeats 1000000 in
theorem rnum_any (g : Nat) (s : Int × List UInt8) (w : World) (h : RR w g s) :
    Calls Tryz.prog 75 #[.pointer (some ⟨g, 0, none⟩)] w (RPost w g (numS s) (.int .u64 (((getN s.2).1 : Nat) : Int))) := by
  obtain ⟨e0, l⟩ := s
  obtain ⟨ad, cap, hb, hr, hl, hc, hm⟩ := h.mem
  have c1 := hb.cell 1
  have f1 := hb.free 1
  simp at c1
  have hle := lead_le l
  have HLE := Lib.hid hle
  have hsm := h.small
  simp only at hsm hc
  have HRB := Lib.hid hr
  have HA : Hid (∀ k, k ≤ lead l → k < l.length → 128 ≤ (l.getD k 0).toNat → k + 1 ≤ lead l) := Lib.hid (fun k h1 h2 h3 => lead_step h1 h2 h3)
  have HS : Hid (∀ k, k ≤ lead l → (l.getD k 0).toNat < 128 → lead l = k) := Lib.hid (fun k h1 h2 => lead_stop h1 h2)
  have HF : Hid (∀ (e : Nat) (i : Int), i = (e : Int) → getN l = (0, [], e) → e ≠ 0 → (Calls Tryz.prog 94 #[.pointer (some ⟨g, 0, none⟩), .int .i64 i] w (RPost w g (numS (e0, l)) (.tuple #[])) ∧ ∀ w', RR w' g (numS (e0, l)) → RStep w w' g → RPost w g (numS (e0, l)) (.int .u64 (((getN l).1 : Nat) : Int)) (.returned (.int .u64 0)) w')) := Lib.hid (fun e i hi he hne => by
    subst hi
    have hs : numS (e0, l) = (if e0 = 0 then (e : Int) else e0, []) := by unfold numS; simp only; rw [he]; exact upd_bad _ _ hne
    refine ⟨by rw [hs]; exact fail_any g (e0, l) e w h, fun w' h1 h2 => ⟨by rw [he]; rfl, h1, h2⟩⟩)
  have HO : Hid (∀ k, lead l = k → k < 10 → k < l.length → lastB (l.getD k 0).toNat k = true →
      RPost w g (numS (e0, l)) (.int .u64 (((getN l).1 : Nat) : Int)) (.returned (.int .u64 ((sevN (l.take (k + 1)) : Nat) : Int))) (w.setCell ⟨g, 1, none⟩ (.slice (cutAd ad cap (k + 1)) (l.length - (k + 1)) (cap - (k + 1))))) := Lib.hid (fun k hk h10 hlt hlb => by
    have hlb' := of_decide_eq_true hlb
    have he : getN l = (sevN (l.take (k + 1)), l.drop (k + 1), 0) := by
      unfold getN
      rw [hk, if_neg (by omega), if_neg (by omega), if_neg (by omega)]
    have hkk : ∀ b, b < g → (w.setCell ⟨g, 1, none⟩ (.slice (cutAd ad cap (k + 1)) (l.length - (k + 1)) (cap - (k + 1)))).heap[b]? = w.heap[b]? := fun b hb => Below.heap_setCell _ _ _ _ (show b ≠ g by omega)
    refine ⟨by rw [he], ?_, ⟨(Below.refl _ _).setCell (p := ⟨g, 1, none⟩) (Nat.le_refl _) _, fun k h1 h2 => Below.heap_setCell _ _ _ _ (show k ≠ g by omega)⟩⟩
    have hs : numS (e0, l) = (e0, l.drop (k + 1)) := by unfold numS; simp only; rw [he]; exact upd_ok _ _
    rw [hs]
    refine ⟨⟨cutAd ad cap (k + 1), cap - (k + 1), ?_, (hl.cut _).kept (rd_cut hr hl hc) hkk, hl.cut _, by simp only [List.length_drop]; omega, by omega⟩, fun he => ?_, by simp only [List.length_drop]; omega⟩
    · simp only [List.length_drop]
      exact hb.put 1 _
    · have := h.bad he; simp only at this; rw [this] at hlt; simp at hlt)
  have HN5 : Hid (10 ≤ lead l → getN l = (0, [], 5)) := Lib.hid (fun h => by unfold getN; rw [if_pos h])
  have HN3 : Hid (lead l = l.length → lead l < 10 → getN l = (0, [], 3)) := Lib.hid (fun h h' => by unfold getN; rw [if_neg (by omega), if_pos h])
  have HN5' : Hid (∀ k, lead l = k → k < 10 → k < l.length → lastB (l.getD k 0).toNat k = false → getN l = (0, [], 5)) := Lib.hid (fun k hk h10 hlt hlb => by
    have hlb' := of_decide_eq_false hlb
    unfold getN
    rw [hk, if_neg (by omega), if_neg (by omega), if_pos (by omega)])
  have HX : Hid (∀ k, k < l.length → sevN (l.take (k + 1)) = sevN (l.take k) + (l.getD k 0).toNat % 128 * 128 ^ k ∧ sevN (l.take k) < 128 ^ k) := Lib.hid (fun k hk => ⟨take_snocN hk, by have := sevN_lt (l.take k); rwa [List.length_take, Nat.min_eq_left (by omega)] at this⟩)
  generalize hpost : RPost w g (numS (e0, l)) (.int .u64 (((getN l).1 : Nat) : Int)) = Post at *
  clear h hb hr hl hle hpost
  generalize hlen : l.length = len at *
  have HLN := Lib.hid hlen
  clear hlen
  go_enter Tryz.func75, Tryz.ntmps75
  go_wp2_with fail
  go_loop [3, 8] (fun xv iv => ∃ k x : Nat, k ≤ 10 ∧ iv = .int .i64 (k : Int) ∧ xv = .int .u64 (x : Int) ∧ x < 18446744073709551616 ∧ Hid (k ≤ lead l) ∧ Hid (k ≤ 9 → x = sevN (l.take k))) (fun _ i => 10 - (intOf i).toNat)
  case atStart => exact ⟨0, 0, by omega, rfl, rfl, by omega, Lib.hid (by omega), Lib.hid (fun _ => by rw [List.take_zero]; rfl)⟩
  case round =>
    obtain ⟨k, x, hk, rfl, rfl, hx, hkl, hxe⟩ := hrel
    by_cases hk10 : k < 10
    · by_cases hke : k = len
      · have HE := HN3.out (by have := hkl.out; have := HLE.out; omega) (by have := hkl.out; have := HLE.out; omega)
        obtain ⟨CF, HQ⟩ := HF.out 3 3 rfl HE (by decide)
        have CF := Lib.hid CF
        have HQ := Lib.hid HQ
        clear HE HF HO HN5 HN3 HN5' HX HA HS HRB
        subst hke
        go_wp2_with fail
        refine (CF.out).mono ?_; intro en w1 hh; obtain ⟨rfl, H1, H2⟩ := hh.ret; clear hh
        have HP := Lib.hid (HQ.out _ H1.out H2.out)
        go_wp2_with fail
        exact HP.out
      · have hkl2 : k < len := by have := hkl.out; have := HLE.out; omega
        have hkc : (k : Int) < (len : Int) := by omega
        have hne : ((k : Int) == (len : Int)) = false := by simp; omega
        obtain ⟨b, off, rfl, hcell⟩ := HRB.out.at (k := k) (by rw [HLN.out]; exact hkl2)
        obtain ⟨hx1, hx2⟩ := HX.out k hkl2
        have hb := (l.getD k 0).toNat_lt
        by_cases hbig : 128 ≤ (l.getD k 0).toNat
        · have HK := Lib.hid (HA.out k hkl.out hkl2 hbig)
          have hx1 := Lib.hid hx1
          have hx2 := Lib.hid hx2
          generalize (l.getD k 0).toNat = y at *
          clear HF HO HN5 HN3 HN5' HX HA HS HRB hke
          go_wp2_with fail
          obtain ⟨x', hx', hxx⟩ := or_u64_nat (x : Int) (IntKind.u64.wrap (((y : Int) - 128) * 2 ^ (7 * k)))
          go_roundw
          case rel => exact ⟨k + 1, x', by omega, by go_num, by rw [hxx], hx', HK, Lib.hid (fun h9 => by
            have h := hxe.out (by omega)
            rw [h] at hxx
            rw [sub_128 hbig, or_go _ _ k hx2.out (seven_lt8 (by omega) (by omega)) (by omega)] at hxx
            rw [hx1.out, show y % 128 = y - 128 from by omega]
            omega)⟩
          case measure => simp [intOf]; omega
        · have hsm2 : (l.getD k 0).toNat < 128 := by omega
          have hlk := HS.out k hkl.out hsm2
          cases hlb : lastB (l.getD k 0).toNat k with
          | true =>
            have HP := HO.out k hlk hk10 hkl2 hlb
            have HK9 : k = 9 → (l.getD k 0).toNat ≤ 1 := by
              intro h9
              have := of_decide_eq_true hlb
              omega
            have CI := Lib.hid (isLast_any (l.getD k 0).toNat k w)
            rw [hlb] at CI
            generalize (l.getD k 0).toNat = y at *
            have hfit : y * 128 ^ k < 18446744073709551616 := by
              by_cases h9 : k = 9
              · rw [h9]; exact seven_lt9 (HK9 h9)
              · exact seven_lt8 hsm2 (by omega)
            have hx0 := hxe.out (by omega)
            have hor : Go.bits .or .u64 (x : Int) (IntKind.u64.wrap ((y : Int) * 2 ^ (7 * k))) = ((sevN (l.take (k + 1)) : Nat) : Int) := by
              rw [hx0, or_go _ _ k hx2 hfit (by omega), hx1, show y % 128 = y from by omega]
            rw [← hor] at HP
            have hcut : cutAd (some ⟨b, off, none⟩) cap (k + 1) = if cap = k + 1 then some ⟨b, off, none⟩ else some ⟨b, off + (k + 1), none⟩ := by
              unfold cutAd
              rw [Option.map_some, Addr.add_lit]
            rw [hcut] at HP
            have hk1 : (0 : Int) ≤ (k : Int) + 1 ∧ (k : Int) + 1 ≤ (len : Int) := by omega
            obtain ⟨hk0, hk1⟩ := hk1
            clear HF HO HN5 HN3 HN5' HX HA HS HRB hke hor hcut hfit hx1 hx2 hx0 HK9 hlk hlb
            by_cases hcap : cap = k + 1
            · rw [if_pos hcap] at HP
              obtain rfl : len = k + 1 := by omega
              subst hcap
              rw [Nat.sub_self] at HP
              have HP := Lib.hid HP
              go_wp2_with fail
              refine (CI.out).mono ?_; rintro en w' ⟨rfl, rfl⟩
              go_wp2_with fail
              exact HP.out
            · rw [if_neg hcap] at HP
              have HP := Lib.hid HP
              go_wp2_with fail
              refine (CI.out).mono ?_; rintro en w' ⟨rfl, rfl⟩
              go_wp2_with fail
              exact HP.out
          | false =>
            have HE := HN5'.out k hlk hk10 hkl2 hlb
            obtain ⟨CF, HQ⟩ := HF.out 5 5 rfl HE (by decide)
            have CF := Lib.hid CF
            have HQ := Lib.hid HQ
            have CI := Lib.hid (isLast_any (l.getD k 0).toNat k w)
            rw [hlb] at CI
            generalize (l.getD k 0).toNat = y at *
            clear HE HF HO HN5 HN3 HN5' HX HA HS HRB hke hx1 hx2 hlk hlb
            go_wp2_with fail
            refine (CI.out).mono ?_; rintro en w' ⟨rfl, rfl⟩
            go_wp2_with fail
            refine (CF.out).mono ?_; intro en w1 hh; obtain ⟨rfl, H1, H2⟩ := hh.ret; clear hh
            have HP := Lib.hid (HQ.out _ H1.out H2.out)
            go_wp2_with fail
            exact HP.out
    · obtain rfl : k = 10 := by omega
      have HE := HN5.out hkl.out
      obtain ⟨CF, HQ⟩ := HF.out 5 5 rfl HE (by decide)
      have CF := Lib.hid CF
      have HQ := Lib.hid HQ
      clear HE HF HO HN5 HN3 HN5' HX HA HS HRB
      go_wp2_with fail
      refine (CF.out).mono ?_; intro en w1 hh; obtain ⟨rfl, H1, H2⟩ := hh.ret; clear hh
      have HP := Lib.hid (HQ.out _ H1.out H2.out)
      go_wp2_with fail
      exact HP.out
theorem rnum_nil (w : World) : Calls Tryz.prog 75 #[.pointer none] w fun e w' => e = .returned (.int .u64 0) ∧ w = w' := by
  go_enter Tryz.func75, Tryz.ntmps75
  go_wp2_with fail
  go_ret
  exact ⟨rfl, rfl⟩
theorem getN_lt (l : List UInt8) : (getN l).1 < 18446744073709551616 := by
  rcases h : getN l with ⟨x, r, e⟩
  rcases getN_err h with rfl | ⟨rfl, _⟩
  · exact (sev_getN h).2
  · simp
end Go.Proofs.YtanfnhgaooafeaaGreatDoor.Buf
/-! BufG -/
namespace Go.Proofs.YtanfnhgaooafeaaGreatDoor.Buf
open Go.ChangeShapes Go.WideShapes Go.ChangeAt Go.RowKit
open Go.Proofs.YtanfnhgaooafeaaGreatDoor.Byt Go.Proofs.YtanfnhgaooafeaaGreatDoor.Units Go.Proofs.YtanfnhgaooafeaaGreatDoor.BufM
set_option linter.unusedVariables false

def bytS (s : Int × List UInt8) (most : Int) : Int × List UInt8 := upd s (getB s.2 most).2
/-- What a call of Bytes leaves. -/
def BPost (w : World) (g : Nat) (s : Int × List UInt8) (most : Int) (e : Ending) (w' : World) : Prop :=
  ∃ v, e = .returned v ∧ OwnB w' w.heap.size v (getB s.2 most).1 ∧ RR w' g (bytS s most) ∧ RStep w w' g
theorem byt_long (s : Int × List UInt8) (most : Int) (h : most < 0 ∨ most < (((getN s.2).1 : Nat) : Int)) :
    (if (numS s).1 = 0 then (4 : Int) else (numS s).1, ([] : List UInt8)) = bytS s most ∧ (getB s.2 most).1 = [] := by
  obtain ⟨e0, l⟩ := s
  simp only at h
  unfold bytS numS getB
  simp only
  rcases hg : getN l with ⟨x, r, e⟩
  rw [hg] at h
  simp only at h ⊢
  rcases getN_err hg with rfl | ⟨rfl, rfl, he⟩
  · have hne : ¬ ((0 : Nat) ≠ 0) := by simp
    simp only [hne, if_false, h, if_true, upd_ok]
    exact ⟨rfl, trivial⟩
  · have he0 : e ≠ 0 := by omega
    rw [if_pos he0]
    refine ⟨?_, rfl⟩
    rw [upd_bad _ _ he0]
    by_cases h0 : e0 = 0
    · simp only [h0, if_true]
      rw [if_neg (by omega)]
    · simp only [h0, if_false]
theorem byt_take (s : Int × List UInt8) (most : Int) (h : ¬ (most < 0 ∨ most < (((getN s.2).1 : Nat) : Int))) :
    (if (numS s).2.length < (getN s.2).1 then [] else (numS s).2.take (getN s.2).1) = (getB s.2 most).1 ∧ upd (numS s) (if (numS s).2.length < (getN s.2).1 then ([], 3) else ((numS s).2.drop (getN s.2).1, 0)) = bytS s most := by
  obtain ⟨e0, l⟩ := s
  simp only at h
  unfold bytS numS getB
  simp only
  rcases hg : getN l with ⟨x, r, e⟩
  rw [hg] at h
  simp only at h ⊢
  rcases getN_err hg with rfl | ⟨rfl, rfl, he⟩
  · rw [if_neg (show ¬ (0 : Nat) ≠ 0 by simp), if_neg h, upd_ok]
    simp only
    by_cases hl : r.length < x
    · simp only [hl, if_true]; trivial
    · simp only [hl, if_false]; trivial
  · have he0 : e ≠ 0 := by omega
    rw [if_pos he0, upd_bad _ _ he0]
    simp [upd]
set_option maxRecDepth 100000 in
set_option maxHeartbeats 400000 in
theorem rbytes_any (g : Nat) (s : Int × List UInt8) (most : Int) (w : World) (h : RR w g s) (hm : most ≤ 9223372036854775807) :
    Calls Tryz.prog 73 #[.pointer (some ⟨g, 0, none⟩), .int .i64 most] w (BPost w g s most) := by
  have CN := Lib.hid (rnum_any g s w h)
  have hxl := getN_lt s.2
  have HL : Hid (most < 0 ∨ most < (((getN s.2).1 : Nat) : Int) → ∀ w1, RR w1 g (numS s) → RStep w w1 g → Calls Tryz.prog 94 #[.pointer (some ⟨g, 0, none⟩), .int .i64 4] w1 (RPost w1 g (bytS s most) (.tuple #[])) ∧ ∀ w2, RR w2 g (bytS s most) → RStep w1 w2 g → BPost w g s most (.returned (.slice none 0 0)) w2) := Lib.hid (fun hc w1 h1 h2 => by
    obtain ⟨e1, e2⟩ := byt_long s most hc
    refine ⟨by rw [← e1]; exact fail_any g (numS s) 4 w1 h1, fun w2 h3 h4 => ⟨_, rfl, by rw [e2]; exact World.ownsRow_nil _ _ _ _, h3, h2.trans h4⟩⟩)
  have HT : Hid (¬ (most < 0 ∨ most < (((getN s.2).1 : Nat) : Int)) → ∀ w1, RR w1 g (numS s) → RStep w w1 g → Calls Tryz.prog 95 #[.pointer (some ⟨g, 0, none⟩), .int .i64 (((getN s.2).1 : Nat) : Int)] w1 (TakePost w1 g (getN s.2).1 (numS s)) ∧
      ∀ e w2, TakePost w1 g (getN s.2).1 (numS s) e w2 → ∃ ad len cap, e = .returned (.slice ad len cap) ∧ Calls Tryz.prog 47 #[.slice ad len cap] w2 (fun e w3 => ∃ ad cap, e = .returned (.slice ad len cap) ∧ Hid (BPost w g s most (.returned (.slice ad len cap)) w3))) := Lib.hid (fun hc w1 h1 h2 => by
    obtain ⟨e1, e2⟩ := byt_take s most hc
    refine ⟨take_any g _ (numS s) w1 h1 (by omega), fun e w2 hh => ?_⟩
    obtain ⟨ad, cap, t, ht, rfl, hrd, hl, hc1, hc2, hrr, hst⟩ := hh
    have ht := ht.out
    rw [e1] at ht
    rw [e2] at hrr
    have hts : t.length ≤ 1000000 := by
      have h3 := h1.small
      have : t.length ≤ (numS s).2.length := by
        rw [ht, ← e1]; split
        · simp
        · rw [List.length_take]; omega
      omega
    refine ⟨ad, t.length, cap, rfl, (fresh_any ad t.length cap t w2 rfl (by omega) hrd hl.1).mono fun e w3 hq => ?_⟩
    obtain ⟨v, rfl, ho, hB⟩ := hq
    obtain ⟨ad3, cap3, rfl, _⟩ := Own.shape ho
    have hs2 := h2.trans hst
    refine ⟨ad3, cap3, rfl, Lib.hid ⟨_, rfl, ?_, hrr.kept hB, hs2.trans (RStep.of_below hB (by have := hrr.lt; omega))⟩⟩
    rw [← ht]
    exact Own.mono ho hs2.below.size)
  clear h
  generalize (getN s.2).1 = x at *
  by_cases h0 : most < 0
  · have HL := Lib.hid (HL.out (.inl h0))
    clear HT
    go_enter Tryz.func73, Tryz.ntmps73
    go_wp2_with fail
    refine (CN.out).mono ?_; intro en w1 hh; obtain ⟨rfl, H1, H2⟩ := hh.ret; clear hh
    obtain ⟨CF, HQ⟩ := HL.out w1 H1.out H2.out
    have CF := Lib.hid CF
    have HQ := Lib.hid HQ
    go_wp2_with fail
    refine (CF.out).mono ?_; intro en w2 hh; obtain ⟨rfl, H3, H4⟩ := hh.ret; clear hh
    have HP := Lib.hid (HQ.out w2 H3.out H4.out)
    go_wp2_with fail
    go_ret
    exact HP.out
  · have h0' : 0 ≤ most := by omega
    by_cases hx : most < (x : Int)
    · have HL := Lib.hid (HL.out (.inr hx))
      clear HT
      go_enter Tryz.func73, Tryz.ntmps73
      go_wp2_with fail
      refine (CN.out).mono ?_; intro en w1 hh; obtain ⟨rfl, H1, H2⟩ := hh.ret; clear hh
      obtain ⟨CF, HQ⟩ := HL.out w1 H1.out H2.out
      have CF := Lib.hid CF
      have HQ := Lib.hid HQ
      go_wp2_with fail
      refine (CF.out).mono ?_; intro en w2 hh; obtain ⟨rfl, H3, H4⟩ := hh.ret; clear hh
      have HP := Lib.hid (HQ.out w2 H3.out H4.out)
      go_wp2_with fail
      go_ret
      exact HP.out
    · have HT := Lib.hid (HT.out (by omega))
      have hx' : (x : Int) ≤ most := by omega
      have hx63 : (x : Int) ≤ 9223372036854775807 := by omega
      clear HL
      go_enter Tryz.func73, Tryz.ntmps73
      go_wp2_with fail
      refine (CN.out).mono ?_; intro en w1 hh; obtain ⟨rfl, H1, H2⟩ := hh.ret; clear hh
      obtain ⟨CT, HQ⟩ := HT.out w1 H1.out H2.out
      have CT := Lib.hid CT
      have HQ := Lib.hid HQ
      go_wp2_with fail
      refine (CT.out).mono ?_; intro en w2 hh; obtain ⟨ad, len, cap, rfl, CF⟩ := HQ.out _ _ hh; have CF := Lib.hid CF; clear hh
      go_wp2_with fail
      refine (CF.out).mono ?_; intro en w3 hh; obtain ⟨ad3, cap3, rfl, HP⟩ := hh
      go_wp2_with fail
      go_ret
      exact HP.out
theorem rbytes_nil (most : Int) (w : World) : Calls Tryz.prog 73 #[.pointer none, .int .i64 most] w fun e w' => e = .returned (.slice none 0 0) ∧ w = w' := by
  go_enter Tryz.func73, Tryz.ntmps73
  go_wp2_with fail
  go_ret
  exact ⟨rfl, rfl⟩
end Go.Proofs.YtanfnhgaooafeaaGreatDoor.Buf
/-! BufH -/
namespace Go.Proofs.YtanfnhgaooafeaaGreatDoor.Buf
open Go.ChangeShapes Go.WideShapes Go.ChangeAt Go.RowKit
open Go.Proofs.YtanfnhgaooafeaaGreatDoor.Byt Go.Proofs.YtanfnhgaooafeaaGreatDoor.Units Go.Proofs.YtanfnhgaooafeaaGreatDoor.BufM
set_option linter.unusedVariables false

/-- Bytes of the call's own, handed back. -/
def Gives (l : List UInt8) (w : World) (e : Ending) (w' : World) : Prop := ∃ ad cap, e = .returned (.slice ad l.length cap) ∧ OwnB w' w.heap.size (.slice ad l.length cap) l ∧ Below w.heap.size w w'
theorem gives_of {l : List UInt8} {w : World} {v : Value} {w' : World} (h : OwnB w' w.heap.size v l) (hB : Below w.heap.size w w') : Gives l w (.returned v) w' := by
  obtain ⟨ad, cap, rfl, _⟩ := Own.shape h
  exact ⟨ad, cap, rfl, h, hB⟩
/-- One byte in a row of its own. -/
theorem own_one (w : World) (b : UInt8) : OwnB (w.alloc (.cells #[bv b] 5)) w.heap.size (.slice (some ⟨w.heap.size, 0, none⟩) 1 1) [b] :=
  ⟨rfl, .inr ⟨w.heap.size, 1, #[bv b], rfl, Nat.le_refl _, Blk.new _ _ _, Nat.le_refl _, by unfold maxLen; omega, rfl, rfl⟩⟩
/-- No byte, in a row of its own. -/
theorem own_zero (w : World) : OwnB (w.alloc (.cells #[] 5)) w.heap.size (.slice (some ⟨w.heap.size, 0, none⟩) 0 0) [] :=
  ⟨rfl, .inr ⟨w.heap.size, 0, #[], rfl, Nat.le_refl _, Blk.new _ _ _, Nat.le_refl _, by unfold maxLen; omega, rfl, rfl⟩⟩
set_option maxRecDepth 100000 in
set_option maxHeartbeats 400000 in
theorem rNum_any (x : Nat) : x < 18446744073709551616 → ∀ w : World, Calls Tryz.prog 59 #[.int .u64 (x : Int)] w (Gives (sev x) w) := by
  induction x using Nat.strongRecOn with
  | ind x ih =>
    intro hx w
    by_cases h : x < 128
    · have HP : Hid (∀ v, v = Value.slice (some ⟨w.heap.size, 0, none⟩) 1 1 → Gives (sev x) w (.returned v) (w.alloc (.cells #[.int .u8 (x : Int)] 5))) := Lib.hid (fun v hv => by
        have e := own_one w (UInt8.ofNat x)
        rw [bv_of (by omega)] at e
        rw [sev_small h, hv]
        exact gives_of e ((Below.refl _ _).alloc (Nat.le_refl _) _))
      clear ih
      go_enter Tryz.func59, Tryz.ntmps59
      go_wp2_with fail
      go_ret
      exact HP.out _ rfl
    · obtain ⟨i0, hi, hz0, hz1, hz2⟩ := info_parts infoByte
      have hx2 : x / 128 < x := by omega
      have C := Lib.hid (fun w => ih (x / 128) hx2 (by omega) w)
      have hs := sev_ten (x := x / 128) (by omega)
      have hS := sev_big (x := x) (by omega)
      have ey : ((x % 128 + 128 : Nat) : Int) = (x : Int) % 128 + 128 := by omega
      have hbv : bv (UInt8.ofNat (x % 128 + 128)) = .int .u8 ((x : Int) % 128 + 128) := by rw [bv_of (by omega), ey]
      rw [show ((x / 128 : Nat) : Int) = (x : Int) / 128 from by omega] at C
      clear ih ey
      generalize UInt8.ofNat (x % 128 + 128) = y at *
      generalize sev (x / 128) = t at *
      have HO : Hid (∀ w1, Below (w.heap.size + 1) (w.alloc (.cells #[.int .u8 ((x : Int) % 128 + 128)] 5)) w1 → w1.ownsRow w.heap.size 5 1 (.slice (some ⟨w.heap.size, 0, none⟩) 1 1) 1 [.int .u8 ((x : Int) % 128 + 128)]) := Lib.hid (fun w1 hB => by
        have e := own_one w y
        rw [hbv] at e
        have e2 := e.below (W' := w1) (hB.mono (by simp))
        unfold OwnB at e2
        rw [show bvs [y] = [.int .u8 ((x : Int) % 128 + 128)] from by unfold bvs; rw [List.map_singleton, hbv]] at e2
        exact e2)
      have HP : Hid (∀ (w1 w2 : World) (v : Value) (n : Nat), Below (w.heap.size + 1) (w.alloc (.cells #[.int .u8 ((x : Int) % 128 + 128)] 5)) w1 → w2.ownsRow w.heap.size 5 1 v n ([.int .u8 ((x : Int) % 128 + 128)] ++ bvs t) → n = 1 + t.length → w1.grownBy w2 (some w.heap.size) → Hid (Gives (sev x) w (.returned v) w2)) := Lib.hid (fun w1 w2 v n hB ho hn hg => Lib.hid (by
        refine gives_of ?_ ?_
        · rw [hS]
          unfold OwnB
          rw [List.length_cons, show bvs (y :: t) = [.int .u8 ((x : Int) % 128 + 128)] ++ bvs t from by unfold bvs; rw [List.map_cons, hbv]; rfl, Nat.add_comm, ← hn]
          exact ho
        · have h1 : Below w.heap.size w w1 := ((Below.refl _ _).alloc (Nat.le_refl _) _).trans (hB.mono (by omega))
          exact h1.grown hg h1.size (fun k e => by cases e; omega)))
      clear hS hbv
      go_enter Tryz.func59, Tryz.ntmps59
      go_wp2_with fail
      refine (C.out _).mono ?_; rintro e w1 ⟨ad, cap, rfl, ho, hB⟩
      have hsz : (w.alloc (.cells #[.int .u8 ((x : Int) % 128 + 128)] 5)).heap.size = w.heap.size + 1 := by simp
      rw [hsz] at hB
      have hle : w.heap.size ≤ w1.heap.size := by have := hB.size; rw [hsz] at this; omega
      have hp := ho.pos
      have HO := HO.out w1 hB
      have c3 := Lib.hid (nil_none rfl ho.rd.1 hp.2.2.1)
      have c4 := Lib.hid (RdB.cells ho.rd.1)
      have HP := Lib.hid (HP.out w1)
      have HB := Lib.hid hB
      clear hsz ho hp hB
      go_wp2_with (at_builtin; refine Own.wpList_append2_any _ rfl _ _ 25 rfl w.heap.size 5 i0 (.int .u8 0) 1 1 Tryz.underlying25 hi hz0 hz1 hz2 rfl (by decide) (.slice (some ⟨w.heap.size, 0, none⟩) 1 1) 1 _ rfl HO ad t.length cap (bvs t) rfl (by rw [bvs_len, Nat.mul_one]) c3.out c4.out (bvs_oneCell _) (by unfold maxLen; omega) (by omega) hle ?_; intro v' w2 hown hgrow hnew; have HQ := HP.out _ _ _ HB.out hown rfl hgrow; clear hown hgrow hnew)
      go_ret
      exact HQ.out
theorem rBytes_any (ad : Option Addr) (len cap : Nat) (l : List UInt8) (w : World) (hlen : l.length = len) (hm : len ≤ 1000000) (hr : RdB w ad l) (hn : ad = none → cap = 0) :
    Calls Tryz.prog 61 #[.slice ad len cap] w (Gives (sev len ++ l) w) := by
  obtain ⟨i0, hi, hz0, hz1, hz2⟩ := info_parts infoByte
  have C := Lib.hid (rNum_any len (by omega) w)
  have hs := sev_ten (x := len) (by omega)
  have hc : (len : Int) ≤ 9223372036854775807 := by omega
  have c3 := Lib.hid (nil_none hlen hr hn)
  have HR := Lib.hid hr
  have HL := Lib.hid hlen
  have HP : Hid (∀ (t : List UInt8) (w1 w2 : World) (v1 v : Value), t = sev len → OwnB w1 w.heap.size v1 t → Below w.heap.size w w1 → w2.ownsRow w.heap.size 5 1 v (t.length + len) (bvs t ++ bvs l) → w1.grownBy w2 v1.ownBlock → Hid (Gives (sev len ++ l) w (.returned v) w2)) := Lib.hid (fun t w1 w2 v1 v ht ho1 hB ho hg => Lib.hid (by
    subst ht
    refine gives_of ?_ (hB.grown hg hB.size (fun k e => (own_at ho1 e).1))
    unfold OwnB
    rw [List.length_append, hlen, bvs_append]
    exact ho))
  have HT := Lib.hid (show sev len = sev len from rfl)
  clear hlen hr hn
  generalize hsev : sev len = t at *
  have HT := Lib.hid hsev.symm
  clear hsev
  go_enter Tryz.func61, Tryz.ntmps61
  go_wp2_with fail
  refine (C.out).mono ?_; rintro e w1 ⟨ad2, cap2, rfl, ho, hB⟩
  have hle := hB.size
  have c4 := Lib.hid (RdB.cells (HR.out.below hB))
  have HP := Lib.hid (HP.out t w1)
  have HO := Lib.hid ho
  have HB := Lib.hid hB
  unfold OwnB at ho
  clear hB
  go_wp2_with (at_builtin; refine Own.wpList_append2_any _ rfl _ _ 25 rfl w.heap.size 5 i0 (.int .u8 0) 1 1 Tryz.underlying25 hi hz0 hz1 hz2 rfl (by decide) (.slice ad2 t.length cap2) t.length _ rfl ho ad len cap (bvs l) rfl (by rw [bvs_len, HL.out, Nat.mul_one]) c3.out c4.out (bvs_oneCell _) (by unfold maxLen; omega) (by omega) hle ?_; intro v' w2 hown hgrow hnew; have HQ := HP.out _ _ _ HT.out HO.out HB.out hown hgrow; clear hown hgrow hnew)
  go_ret
  exact HQ.out
theorem div_pow (x k : Nat) : x / 256 ^ k / 256 = x / 256 ^ (k + 1) := by rw [Nat.div_div_eq_div_mul, Nat.pow_succ]
set_option maxRecDepth 100000 in
set_option maxHeartbeats 400000 in
theorem rFixed_any (x n : Nat) (hx : x < 18446744073709551616) (hn : n ≤ 8) (w : World) : Calls Tryz.prog 60 #[.int .u64 (x : Int), .int .i64 (n : Int)] w (Gives (fixB x n) w) := by
  obtain ⟨i0, hi, hz0, hz1, hz2⟩ := info_parts infoByte
  go_enter Tryz.func60, Tryz.ntmps60
  go_wp2_with fail
  go_loopw [0, 5, 6] (fun xv v iv wr => ∃ (k y : Nat) (l : List UInt8), k ≤ n ∧ iv = .int .i64 (k : Int) ∧ xv = .int .u64 (y : Int) ∧ y < 18446744073709551616 ∧ Hid (y = x / 256 ^ k) ∧ Hid (l.length = k) ∧ Hid (l = fixB x k) ∧ Hid (∃ ad cap, v = .slice ad k cap) ∧ Hid (OwnB wr w.heap.size v l) ∧ Hid (Below w.heap.size w wr)) (fun _ _ i _ => n - (intOf i).toNat)
  case atStart => exact ⟨0, x, [], Nat.zero_le _, rfl, rfl, hx, Lib.hid (by simp), Lib.hid rfl, Lib.hid rfl, Lib.hid ⟨_, _, rfl⟩, Lib.hid (own_zero w), Lib.hid ((Below.refl _ _).alloc (Nat.le_refl _) _)⟩
  case round =>
    obtain ⟨k, y, l, hk, rfl, rfl, hy, hyx, hl, hlf, hv, ho, hB⟩ := hrel
    obtain ⟨ad, cap, rfl⟩ := hv.out
    by_cases hlt : k < n
    · have hle := hB.out.size
      have hown := (ho.out.alloc (.cells #[.int .u8 ((y : Int) % 256)] 5))
      unfold OwnB at hown
      rw [hl.out] at hown
      have hbv : bvs [UInt8.ofNat (y % 256)] = [.int .u8 ((y : Int) % 256)] := by
        unfold bvs; rw [List.map_singleton, bv_of (Nat.mod_lt _ (by omega))]; rfl
      have HN : Hid (∀ w1 v1, w1.ownsRow w.heap.size 5 1 v1 (k + 1) (bvs l ++ [.int .u8 ((y : Int) % 256)]) → (wr.alloc (.cells #[.int .u8 ((y : Int) % 256)] 5)).grownBy w1 (Value.slice ad k cap).ownBlock →
          Hid (y / 256 = x / 256 ^ (k + 1)) ∧ Hid ((l ++ [UInt8.ofNat (y % 256)]).length = k + 1) ∧ Hid (l ++ [UInt8.ofNat (y % 256)] = fixB x (k + 1)) ∧ Hid (∃ ad cap, v1 = .slice ad (k + 1) cap) ∧ Hid (OwnB w1 w.heap.size v1 (l ++ [UInt8.ofNat (y % 256)])) ∧ Hid (Below w.heap.size w w1)) := Lib.hid (fun w1 v1 h1 h2 => by
        have e := hyx.out
        refine ⟨Lib.hid (by rw [e, div_pow]), Lib.hid (by rw [List.length_append, hl.out]; rfl), Lib.hid (by rw [fixB_snoc, hlf.out, e]), Lib.hid ?_, Lib.hid ?_, Lib.hid ?_⟩
        · obtain ⟨a2, c2, e2, _⟩ := Own.shape h1
          exact ⟨a2, c2, e2⟩
        · unfold OwnB
          rw [bvs_append, hbv, List.length_append, hl.out]
          exact h1
        · exact (hB.out.alloc hle _).grown h2 (by simp; omega) (fun j e => (own_at ho.out e).1))
      have hy2 : y / 256 < 18446744073709551616 := by omega
      clear hbv hyx hl hlf hv ho hB
      generalize UInt8.ofNat (y % 256) = b at *
      go_wp2_with (at_builtin; refine Own.wpList_append2 _ rfl _ _ 25 rfl w.heap.size 5 i0 (.int .u8 0) 1 1 Tryz.underlying25 hi hz0 hz1 hz2 rfl (by decide) (.slice ad k cap) k _ rfl hown ⟨wr.heap.size, 0, none⟩ 1 1 [.int .u8 ((y : Int) % 256)] rfl rfl (cell_one_new _ _ _) (by simp [Value.oneCell']) (by unfold maxLen; omega) (by omega) (by simp; omega) ?_; intro v1 w1 hown1 hgrow _ _; obtain ⟨k1, k2, k3, k4, k5, k6⟩ := HN.out w1 v1 hown1 hgrow; clear hown1 hgrow)
      go_roundw
      case rel => exact ⟨k + 1, y / 256, _, by omega, by go_num, by go_num, hy2, k1, k2, k3, k4, k5, k6⟩
      case measure => simp [intOf]; omega
    · obtain rfl : k = n := by omega
      have HP := Lib.hid (gives_of (v := .slice ad k cap) ho.out hB.out)
      rw [hlf.out] at HP
      clear hlf ho hB hl hyx hv
      go_wp2_with fail
      go_ret
      exact HP.out
end Go.Proofs.YtanfnhgaooafeaaGreatDoor.Buf
/-! BufI -/
namespace Go.Proofs.YtanfnhgaooafeaaGreatDoor.Buf
open Go.ChangeShapes Go.WideShapes Go.ChangeAt Go.RowKit
open Go.Proofs.YtanfnhgaooafeaaGreatDoor.Byt Go.Proofs.YtanfnhgaooafeaaGreatDoor.Units Go.Proofs.YtanfnhgaooafeaaGreatDoor.BufM
set_option linter.unusedVariables false

/-- Bytes that came in, or of the call's own: where they lie. -/
structure RdS (w : World) (G : Nat) (ad : Option Addr) (len cap : Nat) (l : List UInt8) : Prop where
  len_ : l.length = len
  rd : RdB w ad l
  lies : Lies ad cap G
  le : len ≤ cap
  max : cap ≤ 9223372036854775807
theorem RdS.cut {w : World} {G : Nat} {ad : Option Addr} {len cap : Nat} {l : List UInt8} (h : RdS w G ad len cap l) (k : Nat) : RdS w G (cutAd ad cap k) (len - k) (cap - k) (l.drop k) := by
  have h1 := h.len_; have h2 := h.le; have h3 := h.max
  exact ⟨by rw [List.length_drop, h1], rd_cut h.rd h.lies (by omega), h.lies.cut k, by omega, by omega⟩
theorem RdS.take {w : World} {G : Nat} {ad : Option Addr} {len cap : Nat} {l : List UInt8} (h : RdS w G ad len cap l) {k : Nat} (hk : k ≤ len) : RdS w G ad k cap (l.take k) := by
  have h1 := h.len_; have h2 := h.le
  exact ⟨by rw [List.length_take]; omega, h.rd.take k, h.lies, by omega, h.max⟩
theorem RdS.nil (w : World) (G : Nat) : RdS w G none 0 0 [] := ⟨rfl, .inl rfl, Lies.nil G, Nat.le_refl _, by omega⟩
theorem RdS.drewN {w : World} {G : Nat} {ad : Option Addr} {len cap : Nat} {l : List UInt8} (h : RdS w G ad len cap l) (n : Nat) : RdS (w.drewN n) G ad len cap l := ⟨h.len_, h.rd, h.lies, h.le, h.max⟩
theorem RdS.kept {w w' : World} {G : Nat} {ad : Option Addr} {len cap : Nat} {l : List UInt8} (h : RdS w G ad len cap l) (hk : ∀ b, b < G → w'.heap[b]? = w.heap[b]?) : RdS w' G ad len cap l := ⟨h.len_, h.lies.kept h.rd hk, h.lies, h.le, h.max⟩
/-- What GetFixed and GetNum leave: the number, the rest, the error. -/
def GPost (w : World) (G : Nat) (r : Nat × List UInt8 × Nat) (e : Ending) (w' : World) : Prop :=
  ∃ ad len cap n, e = .returned (.tuple #[.int .u64 ((r.1 : Nat) : Int), .slice ad len cap, .int .i64 ((r.2.2 : Nat) : Int)]) ∧ w.drewN n = w' ∧ RdS w G ad len cap r.2.1
theorem drop_step {l : List UInt8} {k : Nat} (h : k < l.length) : l.drop k = l.getD k 0 :: l.drop (k + 1) := by
  rw [List.drop_eq_getElem_cons h]; simp [h]
theorem fixN_step {l : List UInt8} {k : Nat} (h : k < l.length) : fixN (l.drop k) = (l.getD k 0).toNat + 256 * fixN (l.drop (k + 1)) := by rw [drop_step h, fixN]
theorem sevN_step {l : List UInt8} {k : Nat} (h : k < l.length) : sevN (l.drop k) = (l.getD k 0).toNat % 128 + 128 * sevN (l.drop (k + 1)) := by rw [drop_step h, sevN]
theorem sevN_drop : ∀ (k : Nat) (l : List UInt8), sevN (l.drop k) ≤ sevN l
  | 0, l => by simp
  | k + 1, [] => by simp
  | k + 1, b :: l => by rw [List.drop_succ_cons]; have := sevN_drop k l; simp only [sevN]; omega
theorem cutAd_some (b off cap k : Nat) : cutAd (some ⟨b, off, none⟩) cap k = if cap = k then some ⟨b, off, none⟩ else some ⟨b, off + k, none⟩ := by
  unfold cutAd
  rw [Option.map_some, Addr.add_lit]
theorem GPost.mk' {w : World} {G : Nat} {r : Nat × List UInt8 × Nat} {x e : Nat} (hr : r = (x, [], e)) : GPost w G r (.returned (.tuple #[.int .u64 (x : Int), .slice none 0 0, .int .i64 (e : Int)])) w := by
  subst hr
  exact ⟨_, _, _, 0, rfl, rfl, RdS.nil w G⟩
theorem lead_get {l : List UInt8} {k : Nat} (h : k ≤ lead l) (hk : k < l.length) : (128 ≤ (l.getD k 0).toNat ∧ k + 1 ≤ lead l) ∨ ((l.getD k 0).toNat < 128 ∧ lead l = k) := by
  by_cases hb : 128 ≤ (l.getD k 0).toNat
  · exact .inl ⟨hb, lead_step h hk hb⟩
  · exact .inr ⟨by omega, lead_stop h (by omega)⟩
theorem getN_lt' (l : List UInt8) : (getN l).1 < 18446744073709551616 := by
  rcases h : getN l with ⟨x, r, e⟩
  rcases getN_err h with rfl | ⟨rfl, _⟩
  · exact (sev_getN h).2
  · simp
theorem drewN_add (w : World) (n m : Nat) : w.drewN (n + m) = (w.drewN n).drewN m := by
  simp [World.drewN, Nat.add_assoc]
/-- What GetBytes leaves: the bytes, the rest, the error. -/
def GBPost (w : World) (G : Nat) (r : List UInt8 × List UInt8 × Nat) (e : Ending) (w' : World) : Prop :=
  ∃ ad len cap ad2 len2 cap2 n, e = .returned (.tuple #[.slice ad len cap, .slice ad2 len2 cap2, .int .i64 ((r.2.2 : Nat) : Int)]) ∧ w.drewN n = w' ∧ RdS w G ad len cap r.1 ∧ RdS w G ad2 len2 cap2 r.2.1
theorem GBPost.mk' {w : World} {G : Nat} {r : List UInt8 × List UInt8 × Nat} {e : Nat} (n : Nat) (hr : r = ([], [], e)) : GBPost w G r (.returned (.tuple #[.slice none 0 0, .slice none 0 0, .int .i64 (e : Int)])) (w.drewN n) := by
  subst hr
  exact ⟨_, _, _, _, _, _, n, rfl, rfl, RdS.nil w G, RdS.nil w G⟩
end Go.Proofs.YtanfnhgaooafeaaGreatDoor.Buf
