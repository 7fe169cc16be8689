/- How many bits a number of 64 bits has, as math/bits reckons it: the plain mathematics; no Go in sight. -/
import Derived.Test.YtmkdemdeejhonaaDoorNodesM
namespace Go.Proofs.YtmkdemdeejhonaaDoor.Nodes
set_option linter.unusedVariables false

def pc : Nat → Nat → Nat
  | 0, _ => 0
  | k + 1, x => x % 2 + pc k (x / 2)
theorem pc_le (k x : Nat) : pc k x ≤ k := by
  induction k generalizing x with
  | zero => exact Nat.le_refl _
  | succ k ih => have := ih (x / 2); rw [pc]; omega
theorem pc_bits (k x : Nat) : ((List.range k).filter fun j => x.testBit j).length = pc k x := by
  induction k generalizing x with
  | zero => rfl
  | succ k ih =>
    rw [List.range_succ_eq_map, List.filter_cons, List.filter_map, pc, ← ih (x / 2)]
    have e : (fun j => (x / 2).testBit j) = ((fun j => x.testBit j) ∘ Nat.succ) := by funext j; simp [Nat.testBit_succ]
    rw [e]
    rcases Nat.mod_two_eq_zero_or_one x with h | h <;> rw [Nat.testBit_zero, h] <;> simp <;> omega
theorem low_bit (h l : Nat) : (256 * h + l) % 2 = l % 2 ∧ (256 * h + l) / 2 % 2 = l / 2 % 2 ∧ (256 * h + l) / 4 % 2 = l / 4 % 2 ∧ (256 * h + l) / 8 % 2 = l / 8 % 2 ∧
    (256 * h + l) / 16 % 2 = l / 16 % 2 ∧ (256 * h + l) / 32 % 2 = l / 32 % 2 ∧ (256 * h + l) / 64 % 2 = l / 64 % 2 ∧ (256 * h + l) / 128 % 2 = l / 128 % 2 := by
  refine ⟨?_, ?_, ?_, ?_, ?_, ?_, ?_, ?_⟩ <;> omega
theorem pc_eight (k x : Nat) : pc (k + 8) x = x % 2 + (x / 2 % 2 + (x / 4 % 2 + (x / 8 % 2 + (x / 16 % 2 + (x / 32 % 2 + (x / 64 % 2 + (x / 128 % 2 + pc k (x / 256)))))))) := by
  simp only [pc, Nat.div_div_eq_div_mul, Nat.reduceMul]
theorem pc_byte (k h l : Nat) (hl : l < 256) : pc (8 + k) (256 * h + l) = pc 8 l + pc k h := by
  rw [Nat.add_comm 8 k, pc_eight, show pc 8 l = pc (0 + 8) l from rfl, pc_eight 0 l]
  obtain ⟨e0, e1, e2, e3, e4, e5, e6, e7⟩ := low_bit h l
  rw [e0, e1, e2, e3, e4, e5, e6, e7, show (256 * h + l) / 256 = h from by omega, show pc 0 (l / 256) = 0 from rfl]
  simp only [Nat.add_zero, Nat.add_assoc]

theorem and_join (a b c d : Nat) (hb : b < 256) (hd : d < 256) : (256 * a + b) &&& (256 * c + d) = 256 * (a &&& c) + (b &&& d) := by
  refine Nat.eq_of_testBit_eq fun j => ?_
  have h1 := Nat.testBit_two_pow_mul_add a (b := b) (i := 8) hb j
  have h2 := Nat.testBit_two_pow_mul_add c (b := d) (i := 8) hd j
  have h3 := Nat.testBit_two_pow_mul_add (a &&& c) (b := b &&& d) (i := 8) (Nat.lt_of_le_of_lt Nat.and_le_left hb) j
  rw [Nat.testBit_and]
  simp only [show (2 : Nat) ^ 8 = 256 from rfl] at h1 h2 h3
  rw [h1, h2, h3]
  split <;> rw [Nat.testBit_and]

def mk (c : Nat) : Nat → Nat
  | 0 => 0
  | n + 1 => 256 * mk c n + c
def s1 (n x : Nat) : Nat := (x / 2 &&& mk 85 n) + (x &&& mk 85 n)
def s2 (n x : Nat) : Nat := (x / 4 &&& mk 51 n) + (x &&& mk 51 n)
def s3 (n x : Nat) : Nat := (x / 16 + x) &&& mk 15 n
def b1 (l : Nat) : Nat := (l / 2 &&& 85) + (l &&& 85)
def b2 (l : Nat) : Nat := (l / 4 &&& 51) + (l &&& 51)
theorem low1 : ∀ h, h < 2 → ∀ l, l < 256 → ((h * 128 + l / 2) &&& 85 = (l / 2 &&& 85)) := by decide +kernel
theorem low2 : ∀ h, h < 4 → ∀ l, l < 256 → ((h * 64 + l / 4) &&& 51 = (l / 4 &&& 51)) := by decide +kernel
theorem b1_lt : ∀ l, l < 256 → b1 l < 256 := by decide +kernel
theorem b2_le : ∀ l, l < 256 → b2 (b1 l) ≤ 68 ∧ b2 (b1 l) % 16 ≤ 4 := by decide +kernel
theorem b3 : ∀ l, l < 256 → (b2 (b1 l) / 16 + b2 (b1 l)) % 16 = pc 8 l := by decide +kernel
theorem s1_step (n h l : Nat) (hl : l < 256) : s1 (n + 1) (256 * h + l) = 256 * s1 n h + b1 l := by
  unfold s1 b1
  rw [mk, show (256 * h + l) / 2 = 256 * (h / 2) + (h % 2 * 128 + l / 2) from by omega, and_join _ _ _ _ (by omega) (by decide), and_join _ _ _ _ hl (by decide), low1 _ (Nat.mod_lt _ (by decide)) _ hl]
  omega
theorem s2_step (n h l : Nat) (hl : l < 256) : s2 (n + 1) (256 * h + l) = 256 * s2 n h + b2 l := by
  unfold s2 b2
  rw [mk, show (256 * h + l) / 4 = 256 * (h / 4) + (h % 4 * 64 + l / 4) from by omega, and_join _ _ _ _ (by omega) (by decide), and_join _ _ _ _ hl (by decide), low2 _ (Nat.mod_lt _ (by decide)) _ hl]
  omega
theorem s12_zero (x : Nat) : s2 0 (s1 0 x) = 0 := by simp [s1, s2, mk]
theorem s12_low (n x : Nat) : s2 n (s1 n x) % 16 ≤ 4 := by
  cases n with
  | zero => rw [s12_zero]; decide
  | succ n =>
    rw [show x = 256 * (x / 256) + x % 256 from by omega, s1_step _ _ _ (by omega), s2_step _ _ _ (b1_lt _ (by omega))]
    have := (b2_le (x % 256) (by omega)).2
    omega
theorem s3_step (n h l : Nat) (hl : l < 256) : s3 (n + 1) (s2 (n + 1) (s1 (n + 1) (256 * h + l))) = 256 * s3 n (s2 n (s1 n h)) + pc 8 l := by
  rw [s1_step _ _ _ hl, s2_step _ _ _ (b1_lt _ hl)]
  have hB := s12_low n h
  have hb := (b2_le l hl).1
  rw [← b3 l hl]
  generalize s2 n (s1 n h) = B at *
  generalize b2 (b1 l) = b at *
  unfold s3
  rw [mk, show (256 * B + b) / 16 + (256 * B + b) = 256 * (B / 16 + B) + (B % 16 * 16 + b / 16 + b) from by omega, and_join _ _ _ _ (by omega) (by decide)]
  rw [show (15 : Nat) = 2 ^ 4 - 1 from rfl, Nat.and_two_pow_sub_one_eq_mod]
  omega
theorem s30 (x : Nat) : s3 0 x = 0 := by rw [s3, mk, Nat.and_zero]
theorem s3_cut (n y : Nat) : s3 (n + 1) (s2 (n + 1) (s1 (n + 1) y)) = pc 8 (y % 256) + 256 * s3 n (s2 n (s1 n (y / 256))) := by
  have := s3_step n (y / 256) (y % 256) (by omega)
  rw [show 256 * (y / 256) + y % 256 = y from by omega] at this
  omega
theorem pc_cut (k y : Nat) : pc (8 + k) y = pc 8 (y % 256) + pc k (y / 256) := by
  have := pc_byte k (y / 256) (y % 256) (by omega)
  rw [show 256 * (y / 256) + y % 256 = y from by omega] at this
  exact this
/-- The bytes' counts, one in each byte. -/
theorem s3_bytes (x : Nat) : ∃ y0 y1 y2 y3 y4 y5 y6 y7 : Nat, (y0 ≤ 8 ∧ y1 ≤ 8 ∧ y2 ≤ 8 ∧ y3 ≤ 8 ∧ y4 ≤ 8 ∧ y5 ≤ 8 ∧ y6 ≤ 8 ∧ y7 ≤ 8) ∧
    s3 8 (s2 8 (s1 8 x)) = y0 + 256 * (y1 + 256 * (y2 + 256 * (y3 + 256 * (y4 + 256 * (y5 + 256 * (y6 + 256 * y7)))))) ∧ pc 64 x = y0 + (y1 + (y2 + (y3 + (y4 + (y5 + (y6 + y7)))))) := by
  obtain ⟨x1, h1⟩ : ∃ x1, x1 = x / 256 := ⟨_, rfl⟩
  obtain ⟨x2, h2⟩ : ∃ x2, x2 = x1 / 256 := ⟨_, rfl⟩
  obtain ⟨x3, h3⟩ : ∃ x3, x3 = x2 / 256 := ⟨_, rfl⟩
  obtain ⟨x4, h4⟩ : ∃ x4, x4 = x3 / 256 := ⟨_, rfl⟩
  obtain ⟨x5, h5⟩ : ∃ x5, x5 = x4 / 256 := ⟨_, rfl⟩
  obtain ⟨x6, h6⟩ : ∃ x6, x6 = x5 / 256 := ⟨_, rfl⟩
  obtain ⟨x7, h7⟩ : ∃ x7, x7 = x6 / 256 := ⟨_, rfl⟩
  refine ⟨pc 8 (x % 256), pc 8 (x1 % 256), pc 8 (x2 % 256), pc 8 (x3 % 256), pc 8 (x4 % 256), pc 8 (x5 % 256), pc 8 (x6 % 256), pc 8 (x7 % 256),
    ⟨pc_le 8 _, pc_le 8 _, pc_le 8 _, pc_le 8 _, pc_le 8 _, pc_le 8 _, pc_le 8 _, pc_le 8 _⟩, ?_, ?_⟩
  · have a0 := s3_cut 7 x
    have a1 := s3_cut 6 x1
    have a2 := s3_cut 5 x2
    have a3 := s3_cut 4 x3
    have a4 := s3_cut 3 x4
    have a5 := s3_cut 2 x5
    have a6 := s3_cut 1 x6
    have a7 := s3_cut 0 x7
    rw [← h1] at a0; rw [← h2] at a1; rw [← h3] at a2; rw [← h4] at a3; rw [← h5] at a4; rw [← h6] at a5; rw [← h7] at a6
    rw [s30, Nat.mul_zero, Nat.add_zero] at a7
    simp only [Nat.reduceAdd, Nat.add_zero] at a0 a1 a2 a3 a4 a5 a6 a7
    rw [a0, a1, a2, a3, a4, a5, a6, a7]
  · have a0 := pc_cut 56 x
    have a1 := pc_cut 48 x1
    have a2 := pc_cut 40 x2
    have a3 := pc_cut 32 x3
    have a4 := pc_cut 24 x4
    have a5 := pc_cut 16 x5
    have a6 := pc_cut 8 x6
    have a7 := pc_cut 0 x7
    rw [← h1] at a0; rw [← h2] at a1; rw [← h3] at a2; rw [← h4] at a3; rw [← h5] at a4; rw [← h6] at a5; rw [← h7] at a6
    rw [show pc 0 (x7 / 256) = 0 from rfl, Nat.add_zero] at a7
    simp only [Nat.reduceAdd, Nat.add_zero] at a0 a1 a2 a3 a4 a5 a6 a7
    rw [a0, a1, a2, a3, a4, a5, a6, a7]
theorem div_of (p q k : Nat) (h : p < k) : (p + k * q) / k = q := by
  rw [Nat.add_mul_div_left _ _ (by omega), Nat.div_eq_of_lt h, Nat.zero_add]
theorem sum_l1 (y0 y1 y2 y3 y4 y5 y6 y7 : Nat) : (y0 + 256 * (y1 + 256 * (y2 + 256 * (y3 + 256 * (y4 + 256 * (y5 + 256 * (y6 + 256 * y7))))))) + (y1 + 256 * (y2 + 256 * (y3 + 256 * (y4 + 256 * (y5 + 256 * (y6 + 256 * y7)))))) =
    (y0 + y1 + 256 * (y1 + y2)) + 65536 * ((y2 + y3) + 256 * ((y3 + y4) + 256 * ((y4 + y5) + 256 * ((y5 + y6) + 256 * ((y6 + y7) + 256 * y7))))) := by omega
theorem sum_l2 (y0 y1 y2 y3 y4 y5 y6 y7 : Nat) : (y0 + y1 + 256 * (y1 + y2)) + 65536 * ((y2 + y3) + 256 * ((y3 + y4) + 256 * ((y4 + y5) + 256 * ((y5 + y6) + 256 * ((y6 + y7) + 256 * y7))))) + ((y2 + y3) + 256 * ((y3 + y4) + 256 * ((y4 + y5) + 256 * ((y5 + y6) + 256 * ((y6 + y7) + 256 * y7))))) =
    ((y0 + y1 + y2 + y3) + 256 * ((y1 + y2 + y3 + y4) + 256 * ((y2 + y3 + y4 + y5) + 256 * (y3 + y4 + y5 + y6)))) + 4294967296 * ((y4 + y5 + y6 + y7) + 256 * ((y5 + y6 + y7) + 256 * ((y6 + y7) + 256 * y7))) := by omega
theorem sum_l3 (y0 y1 y2 y3 y4 y5 y6 y7 : Nat) : ((y0 + y1 + y2 + y3) + 256 * ((y1 + y2 + y3 + y4) + 256 * ((y2 + y3 + y4 + y5) + 256 * (y3 + y4 + y5 + y6)))) + 4294967296 * ((y4 + y5 + y6 + y7) + 256 * ((y5 + y6 + y7) + 256 * ((y6 + y7) + 256 * y7))) + ((y4 + y5 + y6 + y7) + 256 * ((y5 + y6 + y7) + 256 * ((y6 + y7) + 256 * y7))) =
    (y0 + (y1 + (y2 + (y3 + (y4 + (y5 + (y6 + y7))))))) + 128 * (2 * ((y1 + y2 + y3 + y4 + y5 + y6 + y7) + 256 * ((y2 + y3 + y4 + y5 + y6 + y7) + 256 * ((y3 + y4 + y5 + y6 + y7) + 256 * ((y4 + y5 + y6 + y7) + 256 * ((y5 + y6 + y7) + 256 * ((y6 + y7) + 256 * y7))))))) := by omega
theorem sum_y (y0 y1 y2 y3 y4 y5 y6 y7 : Nat) (h : y0 ≤ 8 ∧ y1 ≤ 8 ∧ y2 ≤ 8 ∧ y3 ≤ 8 ∧ y4 ≤ 8 ∧ y5 ≤ 8 ∧ y6 ≤ 8 ∧ y7 ≤ 8) :
    (y0 + 256 * (y1 + 256 * (y2 + 256 * (y3 + 256 * (y4 + 256 * (y5 + 256 * (y6 + 256 * y7))))))) ≤ 600000000000000000 ∧ y0 < 256 ∧ y0 + y1 + 256 * (y1 + y2) < 65536 ∧ (y0 + y1 + y2 + y3) + 256 * ((y1 + y2 + y3 + y4) + 256 * ((y2 + y3 + y4 + y5) + 256 * (y3 + y4 + y5 + y6))) < 4294967296 ∧
    y0 + (y1 + (y2 + (y3 + (y4 + (y5 + (y6 + y7)))))) < 128 := by omega
theorem sum_bytes (y0 y1 y2 y3 y4 y5 y6 y7 y a b c : Nat) (h : y0 ≤ 8 ∧ y1 ≤ 8 ∧ y2 ≤ 8 ∧ y3 ≤ 8 ∧ y4 ≤ 8 ∧ y5 ≤ 8 ∧ y6 ≤ 8 ∧ y7 ≤ 8)
    (hy : y = y0 + 256 * (y1 + 256 * (y2 + 256 * (y3 + 256 * (y4 + 256 * (y5 + 256 * (y6 + 256 * y7))))))) (ha : a = y + y / 256) (hb : b = a + a / 65536) (hc : c = b + b / 4294967296) :
    c % 128 = y0 + (y1 + (y2 + (y3 + (y4 + (y5 + (y6 + y7)))))) := by
  obtain ⟨g1, g2, g3, g4, g5⟩ := sum_y y0 y1 y2 y3 y4 y5 y6 y7 h
  clear h
  rw [hy, div_of _ _ _ g2, sum_l1] at ha
  rw [ha, div_of _ _ _ g3, sum_l2] at hb
  rw [hb, div_of _ _ _ g4, sum_l3] at hc
  rw [hc, Nat.add_mul_mod_self_left, Nat.mod_eq_of_lt g5]
theorem y_le (x : Nat) : s3 8 (s2 8 (s1 8 x)) ≤ 600000000000000000 := by
  obtain ⟨y0, y1, y2, y3, y4, y5, y6, y7, h, e, _⟩ := s3_bytes x
  rw [e]
  exact (sum_y y0 y1 y2 y3 y4 y5 y6 y7 h).1
def ocA (x : Nat) : Nat := s3 8 (s2 8 (s1 8 x)) + s3 8 (s2 8 (s1 8 x)) / 256
def ocB (x : Nat) : Nat := ocA x + ocA x / 65536
def ocC (x : Nat) : Nat := ocB x + ocB x / 4294967296
theorem oc_spec (x : Nat) : ocC x % 128 = (mem x).length := by
  obtain ⟨y0, y1, y2, y3, y4, y5, y6, y7, h, e, e2⟩ := s3_bytes x
  rw [mem, pc_bits, e2]
  exact sum_bytes y0 y1 y2 y3 y4 y5 y6 y7 _ (ocA x) (ocB x) (ocC x) h e rfl rfl rfl
theorem ocC_le (x : Nat) : ocA x ≤ 700000000000000000 ∧ ocB x ≤ 800000000000000000 ∧ ocC x ≤ 900000000000000000 := by
  have h1 := y_le x
  have h2 : ocA x = s3 8 (s2 8 (s1 8 x)) + s3 8 (s2 8 (s1 8 x)) / 256 := rfl
  have h3 : ocB x = ocA x + ocA x / 65536 := rfl
  have h4 : ocC x = ocB x + ocB x / 4294967296 := rfl
  generalize ocC x = c at *
  generalize ocB x = b at *
  generalize ocA x = a at *
  generalize s3 8 (s2 8 (s1 8 x)) = y at *
  omega
theorem mk8 : mk 85 8 = 6148914691236517205 ∧ mk 51 8 = 3689348814741910323 ∧ mk 15 8 = 1085102592571150095 := by decide
end Go.Proofs.YtmkdemdeejhonaaDoor.Nodes
