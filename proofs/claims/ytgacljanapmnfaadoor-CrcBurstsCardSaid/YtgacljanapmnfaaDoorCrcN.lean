/- The sum of 32 bits over bytes: what is sealed is good; a burst is not; two parts are joined: the plain mathematics of layer crc; no Go in sight. -/
import Derived.Test.YtgacljanapmnfaaDoorCrcM
namespace Go.Proofs.YtgacljanapmnfaaDoor.Crc
set_option linter.unusedVariables false

def bits8 (x : UInt8) : List Bool := (List.range 8).map fun k => x.toNat.testBit k
theorem bits8_len (x : UInt8) : (bits8 x).length = 8 := by simp [bits8]
def bits (l : List UInt8) : List Bool := l.flatMap bits8
theorem bits_nil : bits [] = [] := rfl
theorem bits_cons (x : UInt8) (l : List UInt8) : bits (x :: l) = bits8 x ++ bits l := rfl
theorem bits_append (l m : List UInt8) : bits (l ++ m) = bits l ++ bits m := List.flatMap_append
theorem bits_len (l : List UInt8) : (bits l).length = 8 * l.length := by
  induction l with
  | nil => rfl
  | cons x l ih => rw [bits_cons, List.length_append, bits8_len, ih, List.length_cons]; omega
theorem num_append (l m : List Bool) : num (l ++ m) = num l + 2 ^ l.length * num m := by
  induction l with
  | nil => simp [num]
  | cons b l ih => rw [List.cons_append, num, num, ih, List.length_cons, Nat.pow_succ, Nat.mul_add, Nat.mul_comm (2 ^ l.length) 2, ← Nat.mul_assoc]; omega
theorem num8' : ∀ n, n < 256 → num ((List.range 8).map fun k => n.testBit k) = n := by decide +kernel
theorem num8 (x : UInt8) : num (bits8 x) = x.toNat := num8' x.toNat x.toNat_lt
theorem num_bits (x : UInt8) (l : List UInt8) : num (bits (x :: l)) = x.toNat + 256 * num (bits l) := by
  rw [bits_cons, num_append, num8, bits8_len]
theorem bits_inj {l m : List UInt8} (h : bits l = bits m) : l = m := by
  induction l generalizing m with
  | nil =>
    cases m with
    | nil => rfl
    | cons y m => have := congrArg List.length h; rw [bits_len, bits_len] at this; simp at this
  | cons x l ih =>
    cases m with
    | nil => have := congrArg List.length h; rw [bits_len, bits_len] at this; simp at this
    | cons y m =>
      rw [bits_cons, bits_cons] at h
      obtain ⟨h1, h2⟩ := List.append_inj h (by rw [bits8_len, bits8_len])
      have h3 := congrArg num h1
      rw [num8, num8] at h3
      rw [ih h2, UInt8.toNat_inj.1 h3]

/-- Four bytes, the lowest first. -/
def le4 (s : Nat) : List UInt8 := [UInt8.ofNat (s % 256), UInt8.ofNat (s / 256 % 256), UInt8.ofNat (s / 65536 % 256), UInt8.ofNat (s / 16777216 % 256)]
theorem le4_num {s : Nat} (h : s < 2 ^ 32) : num (bits (le4 s)) = s := by
  unfold le4
  rw [num_bits, num_bits, num_bits, num_bits, bits_nil, num]
  simp only [UInt8.toNat_ofNat']
  omega
theorem num_le4 {x : List UInt8} (h : x.length = 4) : le4 (num (bits x)) = x := by
  match x, h with
  | [a, b, c, d], _ =>
    rw [num_bits, num_bits, num_bits, num_bits, bits_nil, num]
    have ha := a.toNat_lt
    have hb := b.toNat_lt
    have hc := c.toNat_lt
    have hd := d.toNat_lt
    unfold le4
    have e1 : (a.toNat + 256 * (b.toNat + 256 * (c.toNat + 256 * (d.toNat + 256 * 0)))) % 256 = a.toNat := by omega
    have e2 : (a.toNat + 256 * (b.toNat + 256 * (c.toNat + 256 * (d.toNat + 256 * 0)))) / 256 % 256 = b.toNat := by omega
    have e3 : (a.toNat + 256 * (b.toNat + 256 * (c.toNat + 256 * (d.toNat + 256 * 0)))) / 65536 % 256 = c.toNat := by omega
    have e4 : (a.toNat + 256 * (b.toNat + 256 * (c.toNat + 256 * (d.toNat + 256 * 0)))) / 16777216 % 256 = d.toNat := by omega
    rw [e1, e2, e3, e4]
    simp

def ones : Nat := 4294967295
theorem ones_lt : ones < 2 ^ 32 := by decide
theorem flip {r : Nat} (h : r < 2 ^ 32) : ones - r = ones ^^^ r := by
  refine Nat.eq_of_testBit_eq fun j => ?_
  rw [Nat.testBit_xor, show ones - r = 2 ^ 32 - (r + 1) from by unfold ones; omega, Nat.testBit_two_pow_sub_succ h, show ones = 2 ^ 32 - 1 from rfl, Nat.testBit_two_pow_sub_one]
  by_cases hj : j < 32
  · simp [hj]
  · have := Nat.testBit_lt_two_pow (Nat.lt_of_lt_of_le h (Nat.pow_le_pow_right (n := 2) (by decide) (show 32 ≤ j by omega)))
    simp [hj, this]
theorem flip_lt {r : Nat} : ones - r < 2 ^ 32 := by unfold ones; omega
/-- More of a sum, and the sum of bytes. -/
def mor (s : Nat) (l : List UInt8) : Nat := feed s (bits l)
theorem mor_lt {s : Nat} (l : List UInt8) (h : s < 2 ^ 32) : mor s l < 2 ^ 32 := feed_lt _ h
theorem mor_append (s : Nat) (l m : List UInt8) : mor s (l ++ m) = mor (mor s l) m := by unfold mor; rw [bits_append, feed_append]
def sumB (l : List UInt8) : Nat := ones - mor ones l
def moreB (s : Nat) (l : List UInt8) : Nat := ones - mor (ones - s) l
theorem sumB_lt (l : List UInt8) : sumB l < 2 ^ 32 := flip_lt
theorem more_sum (l m : List UInt8) : moreB (sumB l) m = sumB (l ++ m) := by
  have := mor_lt l ones_lt
  unfold moreB sumB
  rw [mor_append, show ones - (ones - mor ones l) = mor ones l from by unfold ones at *; omega]
theorem sum_more (l : List UInt8) : moreB 0 l = sumB l := rfl
def sealB (l : List UInt8) : List UInt8 := l ++ le4 (sumB l)
def goodB (l : List UInt8) : Bool := decide (4 ≤ l.length) && decide (sealB (l.take (l.length - 4)) = l)
theorem le4_len (s : Nat) : (le4 s).length = 4 := rfl
theorem seal_len (l : List UInt8) : (sealB l).length = l.length + 4 := by rw [sealB, List.length_append, le4_len]
theorem good_seal (l : List UInt8) : goodB (sealB l) = true := by
  unfold goodB
  rw [seal_len, show l.length + 4 - 4 = l.length from by omega, show (sealB l).take l.length = l from List.take_left]
  simp
def res : Nat := feed ones (zs 32)
/-- Bytes are good just if what is fed of all of them is this one number. -/
theorem good_res (l : List UInt8) (h : 4 ≤ l.length) : goodB l = decide (mor ones l = res) := by
  obtain ⟨d, x, rfl, hx⟩ : ∃ d x : List UInt8, l = d ++ x ∧ x.length = 4 := ⟨l.take (l.length - 4), l.drop (l.length - 4), (List.take_append_drop _ _).symm, by rw [List.length_drop]; omega⟩
  have hd : (d ++ x).take ((d ++ x).length - 4) = d := by rw [List.length_append, hx, show d.length + 4 - 4 = d.length from by omega, List.take_left]
  unfold goodB
  rw [hd, mor_append, Bool.eq_iff_iff]
  simp only [Bool.and_eq_true, decide_eq_true_iff]
  have hr := mor_lt d ones_lt
  have hX : num (bits x) < 2 ^ 32 := by have := num_lt (bits x); rwa [bits_len, hx] at this
  have hfeed : mor (mor ones d) x = feed (mor ones d ^^^ num (bits x)) (zs 32) := by
    unfold mor at *
    rw [feed_num (bits x), bits_len, hx]
  have hs : sealB d = d ++ x ↔ le4 (sumB d) = x := by
    unfold sealB
    exact ⟨fun h => List.append_cancel_left h, fun h => by rw [h]⟩
  rw [hs, hfeed]
  constructor
  · rintro ⟨_, rfl⟩
    rw [le4_num (sumB_lt d), sumB, flip hr, Nat.xor_comm ones, ← Nat.xor_assoc, Nat.xor_self, Nat.zero_xor]
    rfl
  · intro e
    refine ⟨h, ?_⟩
    have e2 : feed ((mor ones d ^^^ num (bits x)) ^^^ ones) (zs 32) = 0 := by
      have := feed_xor (zs 32) (zs 32) rfl (mor ones d ^^^ num (bits x)) ones
      rw [e, res, Nat.xor_self] at this
      rw [show List.zipWith (· ^^ ·) (zs 32) (zs 32) = zs 32 from by decide] at this
      exact this
    have e3 := feed_kernel 32 (Nat.xor_lt_two_pow (Nat.xor_lt_two_pow hr hX) ones_lt) e2
    have e4 := eq_of_xor e3
    have e5 : num (bits x) = (mor ones d ^^^ num (bits x)) ^^^ mor ones d := by
      rw [Nat.xor_comm (mor ones d), Nat.xor_assoc, Nat.xor_self, Nat.xor_zero]
    rw [e4] at e5
    rw [sumB, flip hr, ← e5, num_le4 hx]

/-- Bytes with some bits turned are good just if no bit is turned, if all that are lie within 32. -/
theorem burst_good (s t : List UInt8) (E : List Bool) (pos : Nat) (hs : goodB s = true) (hl : t.length = s.length) (hE : E.length = 8 * s.length) (ht : bits t = List.zipWith (· ^^ ·) (bits s) E)
    (hout : ∀ i, i < E.length → (i < pos ∨ pos + 32 ≤ i) → E[i]? = some false) : goodB t = decide (t = s) := by
  have h4 : 4 ≤ s.length := by unfold goodB at hs; simp at hs; exact hs.1
  have hs' := hs
  rw [good_res s h4, decide_eq_true_iff] at hs'
  have hf : mor ones t = res ^^^ feed 0 E := by
    unfold mor at *
    rw [ht]
    have := feed_xor (bits s) E (by rw [bits_len, hE]) ones 0
    rw [Nat.xor_zero] at this
    rw [this, hs']
  rw [good_res t (by omega), hf, decide_eq_decide]
  constructor
  · intro h
    have h0 : feed 0 E = 0 := by
      have : res ^^^ (res ^^^ feed 0 E) = res ^^^ res := by rw [h]
      rwa [← Nat.xor_assoc, Nat.xor_self, Nat.zero_xor] at this
    have hsplit : E = zs (min pos E.length) ++ (E.drop pos).take 32 ++ zs (E.length - (pos + 32)) := by
      have e1 : E.take pos = zs (min pos E.length) := by
        refine List.ext_getElem? fun i => ?_
        rw [List.getElem?_take, zs, List.getElem?_replicate]
        by_cases hi : i < pos
        · by_cases hi2 : i < E.length
          · rw [if_pos hi, hout i hi2 (.inl hi), if_pos (by omega)]
          · rw [if_pos hi, List.getElem?_eq_none (by omega), if_neg (by omega)]
        · rw [if_neg hi, if_neg (by omega)]
      have e2 : E.drop (pos + 32) = zs (E.length - (pos + 32)) := by
        refine List.ext_getElem? fun i => ?_
        rw [List.getElem?_drop, zs, List.getElem?_replicate]
        by_cases hi : i < E.length - (pos + 32)
        · rw [if_pos hi, hout _ (by omega) (.inr (by omega))]
        · rw [if_neg hi, List.getElem?_eq_none (by omega)]
      rw [← e1, ← e2, List.append_assoc, ← List.drop_drop, List.take_append_drop, List.take_append_drop]
    rw [hsplit] at h0
    have hw := burst _ _ _ (by rw [List.length_take]; omega) h0
    have hz : E = zs (8 * s.length) := by
      rw [hw, ← zs_add, ← zs_add] at hsplit
      have := congrArg List.length hsplit
      rw [hsplit, hE.symm.trans this]
      simp [zs]
    refine bits_inj ?_
    rw [ht, hz, ← bits_len]
    exact zip_zs _
  · rintro rfl
    have hz : feed 0 E = 0 := by
      have : ones ^^^ 0 = ones := Nat.xor_zero _
      have hz2 : mor ones t = mor ones t ^^^ feed 0 E := by rw [hs'] at hf ⊢; exact hf
      have : mor ones t ^^^ mor ones t = mor ones t ^^^ (mor ones t ^^^ feed 0 E) := by rw [← hz2]
      rw [Nat.xor_self, ← Nat.xor_assoc, Nat.xor_self, Nat.zero_xor] at this
      exact this.symm
    rw [hz, Nat.xor_zero]

/-- Two parts are joined: the first one's sum through as many noughts, and the second one's. -/
theorem sum_join (a b : List UInt8) : sumB (a ++ b) = feed (sumB a) (zs (8 * b.length)) ^^^ sumB b := by
  have ha := mor_lt a ones_lt
  have hb := mor_lt b ones_lt
  have hab := mor_lt (a ++ b) ones_lt
  unfold sumB
  rw [flip ha, flip hb, flip hab, mor_append]
  have e1 : mor (mor ones a) b = feed (mor ones a) (zs (8 * b.length)) ^^^ feed 0 (bits b) := by
    unfold mor; rw [feed_split _ (bits b), bits_len]
  have e2 : mor ones b = feed ones (zs (8 * b.length)) ^^^ feed 0 (bits b) := by
    unfold mor; rw [feed_split _ (bits b), bits_len]
  have e3 : feed (ones ^^^ mor ones a) (zs (8 * b.length)) = feed ones (zs (8 * b.length)) ^^^ feed (mor ones a) (zs (8 * b.length)) := by
    have := feed_xor (zs (8 * b.length)) (zs (8 * b.length)) rfl ones (mor ones a)
    rw [show List.zipWith (· ^^ ·) (zs (8 * b.length)) (zs (8 * b.length)) = zs (8 * b.length) from by
      have := zip_zs (zs (8 * b.length)); rwa [show (zs (8 * b.length)).length = 8 * b.length from by simp [zs]] at this] at this
    exact this
  rw [e1, e2, e3]
  generalize feed ones (zs (8 * b.length)) = x
  generalize feed (mor ones a) (zs (8 * b.length)) = y
  generalize feed 0 (bits b) = z
  refine Nat.eq_of_testBit_eq fun j => ?_
  simp only [Nat.testBit_xor]
  cases ones.testBit j <;> cases x.testBit j <;> cases y.testBit j <;> cases z.testBit j <;> rfl
end Go.Proofs.YtgacljanapmnfaaDoor.Crc
