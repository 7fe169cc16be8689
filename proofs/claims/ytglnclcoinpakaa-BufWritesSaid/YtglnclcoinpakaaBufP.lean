/- Items written, then read again: plain mathematics. -/
import Derived.Test.YtglnclcoinpakaaBufO
namespace Go.Proofs.Ytglnclcoinpakaa.Buf
open Go.ChangeShapes Go.WideShapes Go.ChangeAt Go.RowKit
open Go.Proofs.Ytglnclcoinpakaa.Byt Go.Proofs.Ytglnclcoinpakaa.Units Go.Proofs.Ytglnclcoinpakaa.BufM
set_option linter.unusedVariables false

theorem kind_cases (t : It) : t.k % 5 = 0 ∨ t.k % 5 = 1 ∨ t.k % 5 = 2 ∨ t.k % 5 = 3 ∨ t.k % 5 = 4 := by omega
theorem text_err (t : It) : t.text.2 = 0 ∨ (t.text.2 = 1 ∧ t.text.1 = []) := by
  unfold It.text
  repeat' split
  all_goals simp
theorem text_len (t : It) (hx : t.x < 18446744073709551616) : t.text.1.length ≤ 210 := by
  have h1 := sev_ten hx
  have h2 := sev_ten (zigN_lt t.i t.i_bd.1 t.i_bd.2)
  have h3 : t.c.length ≤ 200 := by unfold It.c; rw [List.length_take]; omega
  have h4 := sev_ten (x := t.c.length) (by omega)
  unfold It.text
  split
  · simp
  split
  · split
    · simp
    · rw [fixB_len]; omega
  split
  · simp only; omega
  split
  · simp only; omega
  · simp only [List.length_append]; omega
theorem wByte_all (m : Nat) (e : Int) (l b : List UInt8) : (e ≠ 0 → wByte m (e, l) b = (e, l)) ∧ (e = 0 → (0 : Nat) = 1 → wByte m (e, l) b = (1, l)) ∧ (e = 0 → (0 : Nat) = 0 → ¬ m - l.length < b.length → l.length ≤ m → wByte m (e, l) b = (0, l ++ b)) ∧
      (e = 0 → (0 : Nat) = 0 → m - l.length < b.length → (wByte m (e, l) b).1 = 4 ∧ (wByte m (e, l) b).2.length ≤ l.length + b.length) := by
  refine ⟨fun h => wByte_bad _ h, fun _ h => by omega, fun he _ h1 _ => ?_, fun he _ h1 => ?_⟩
  · subst he; exact wByte_fits _ rfl h1
  · subst he; rw [wByte_long _ rfl h1]; exact ⟨rfl, by simp⟩
/-- What an item makes of the writer, while there is room. -/
theorem put_text (m : Nat) (e : Int) (l : List UInt8) (t : It) (hx : t.x < 18446744073709551616) :
    (e ≠ 0 → t.put m (e, l) = (e, l)) ∧ (e = 0 → t.text.2 = 1 → t.put m (e, l) = (1, l)) ∧ (e = 0 → t.text.2 = 0 → ¬ m - l.length < t.text.1.length → l.length ≤ m → t.put m (e, l) = (0, l ++ t.text.1)) ∧
      (e = 0 → t.text.2 = 0 → m - l.length < t.text.1.length → (t.put m (e, l)).1 = 4 ∧ (t.put m (e, l)).2.length ≤ l.length + t.text.1.length) := by
  have hI : isW t.n = true ↔ ¬ (t.n < 1 ∨ 8 < t.n) := by unfold isW; rw [decide_eq_true_iff]; omega
  rcases kind_cases t with h | h | h | h | h
  · have e1 : t.put m (e, l) = wByte m (e, l) [UInt8.ofNat (t.x % 256)] := by unfold It.put; rw [if_pos h]
    have e2 : t.text = ([UInt8.ofNat (t.x % 256)], 0) := by unfold It.text; rw [if_pos h]
    rw [e1, e2]
    exact wByte_all m e l _
  · have e1 : t.put m (e, l) = wFix m (e, l) t.x t.n := by unfold It.put; rw [if_neg (by omega), if_pos h]
    have e2 : t.text = (if t.n < 1 ∨ 8 < t.n then ([], 1) else (fixB t.x t.n.toNat, 0)) := by unfold It.text; rw [if_neg (by omega), if_pos h]
    rw [e1, e2]
    unfold wFix
    by_cases hn : t.n < 1 ∨ 8 < t.n
    · have hf : ¬ isW t.n = true := fun h => (hI.1 h) hn
      rw [if_neg hf, if_pos hn]
      refine ⟨fun h => ?_, fun h _ => ?_, fun _ h => (by cases h), fun _ h => (by cases h)⟩
      · simp only; rw [if_neg h]
      · simp only; rw [if_pos h]
    · rw [if_pos (hI.2 hn), if_neg hn]
      exact wByte_all m e l _
  · have e1 : t.put m (e, l) = wByte m (e, l) (sev t.x) := by unfold It.put wNum; rw [if_neg (by omega), if_neg (by omega), if_pos h]
    have e2 : t.text = (sev t.x, 0) := by unfold It.text; rw [if_neg (by omega), if_neg (by omega), if_pos h]
    rw [e1, e2]
    exact wByte_all m e l _
  · have e1 : t.put m (e, l) = wByte m (e, l) (sev (zigN t.i)) := by unfold It.put wNum; rw [if_neg (by omega), if_neg (by omega), if_neg (by omega), if_pos h]
    have e2 : t.text = (sev (zigN t.i), 0) := by unfold It.text; rw [if_neg (by omega), if_neg (by omega), if_neg (by omega), if_pos h]
    rw [e1, e2]
    exact wByte_all m e l _
  · have e1 : t.put m (e, l) = wByte m (wByte m (e, l) (sev t.c.length)) t.c := by unfold It.put wBytes wNum; rw [if_neg (by omega), if_neg (by omega), if_neg (by omega), if_neg (by omega)]
    have e2 : t.text = (sev t.c.length ++ t.c, 0) := by unfold It.text; rw [if_neg (by omega), if_neg (by omega), if_neg (by omega), if_neg (by omega)]
    rw [e1, e2]
    refine ⟨fun h => ?_, fun _ h => (by cases h), fun he _ h1 h2 => ?_, fun he _ h1 => ?_⟩
    · have e3 : wByte m (e, l) (sev t.c.length) = (e, l) := wByte_bad _ h
      rw [e3]; exact wByte_bad _ h
    · subst he
      simp only [List.length_append] at h1
      have e3 : wByte m (0, l) (sev t.c.length) = (0, l ++ sev t.c.length) := wByte_fits _ rfl (by simp only; omega)
      have e4 : wByte m (0, l ++ sev t.c.length) t.c = (0, (l ++ sev t.c.length) ++ t.c) := wByte_fits _ rfl (by simp only [List.length_append]; omega)
      rw [e3, e4, List.append_assoc]
    · subst he
      simp only [List.length_append] at h1 ⊢
      by_cases h3 : m - l.length < (sev t.c.length).length
      · have e3 : wByte m (0, l) (sev t.c.length) = (4, l) := wByte_long _ rfl h3
        have e4 : wByte m (4, l) t.c = (4, l) := wByte_bad _ (by simp)
        rw [e3, e4]
        exact ⟨rfl, by simp⟩
      · have e3 : wByte m (0, l) (sev t.c.length) = (0, l ++ sev t.c.length) := wByte_fits _ rfl h3
        have e4 : wByte m (0, l ++ sev t.c.length) t.c = (4, l ++ sev t.c.length) := wByte_long _ rfl (by simp only [List.length_append]; omega)
        rw [e3, e4]
        exact ⟨rfl, by simp⟩
/-- The writer behind items. -/
structure Put (ts : List It) (s : Int × List UInt8) : Prop where
  len : s.2.length ≤ 210 * ts.length
  how : s.1 = 1 ∨ (s.1 = 0 ∧ s.2 = ts.flatMap (fun t => t.text.1) ∧ ∀ t ∈ ts, t.text.2 = 0)
theorem Put.step {ts : List It} {s : Int × List UInt8} (h : Put ts s) (t : It) (hx : t.x < 18446744073709551616) (hl : ts.length < 30) : Put (ts ++ [t]) (t.put 16384 s) := by
  obtain ⟨e, l⟩ := s
  obtain ⟨h1, h2⟩ := h
  simp only at h1 h2
  obtain ⟨p1, p2, p3, p4⟩ := put_text 16384 e l t hx
  have htl := text_len t hx
  rcases h2 with he | ⟨he, hl2, hall⟩
  · rw [p1 (by omega)]
    exact ⟨by simp; omega, .inl he⟩
  · rcases text_err t with ht | ⟨ht, _⟩
    · rw [p3 he ht (by omega) (by omega)]
      refine ⟨by simp; omega, .inr ⟨rfl, by simp [hl2], fun t' ht' => ?_⟩⟩
      rcases List.mem_append.1 ht' with h | h
      · exact hall t' h
      · rw [List.mem_singleton] at h; subst h; exact ht
    · rw [p2 he ht]
      exact ⟨by simp; omega, .inl rfl⟩
theorem Put.nil : Put [] (0, []) := ⟨by simp, .inr ⟨rfl, rfl, fun t h => by cases h⟩⟩
/-- What an item that was written is read as. -/
def It.want (t : It) : Nat × List UInt8 :=
  if t.k % 5 = 0 then (t.x % 256, [])
  else if t.k % 5 = 1 then (t.x % 256 ^ t.n.toNat, [])
  else if t.k % 5 = 2 then (t.x, [])
  else if t.k % 5 = 3 then (zigN t.i, [])
  else (0, t.c)
/-- An item as it is read again: bytes with 200 at most. -/
def It.again (t : It) : It := if t.k % 5 = 4 then { t with n := 200 } else t
theorem again_get (t : It) (hx : t.x < 18446744073709551616) (he : t.text.2 = 0) (r : List UInt8) : t.again.get (t.text.1 ++ r) = (t.want.1, t.want.2, r, 0) := by
  rcases kind_cases t with h | h | h | h | h
  · have e2 : t.text = ([UInt8.ofNat (t.x % 256)], 0) := by unfold It.text; rw [if_pos h]
    have e3 : t.again = t := by unfold It.again; rw [if_neg (by omega)]
    have e4 : t.want = (t.x % 256, []) := by unfold It.want; rw [if_pos h]
    rw [e2, e3, e4]
    unfold It.get
    rw [if_pos h]
    have := getF_fix t.x 1 (by omega) (by omega) r
    rw [show fixB t.x (1 : Int).toNat = [UInt8.ofNat (t.x % 256)] from rfl, show 256 ^ (1 : Int).toNat = 256 from rfl] at this
    rw [this]
  · have hn : ¬ (t.n < 1 ∨ 8 < t.n) := by
      intro hn
      unfold It.text at he
      rw [if_neg (by omega), if_pos h, if_pos hn] at he
      cases he
    have e2 : t.text = (fixB t.x t.n.toNat, 0) := by unfold It.text; rw [if_neg (by omega), if_pos h, if_neg hn]
    have e3 : t.again = t := by unfold It.again; rw [if_neg (by omega)]
    have e4 : t.want = (t.x % 256 ^ t.n.toNat, []) := by unfold It.want; rw [if_neg (by omega), if_pos h]
    rw [e2, e3, e4]
    unfold It.get
    rw [if_neg (by omega), if_pos h, getF_fix t.x t.n (by omega) (by omega) r]
  · have e2 : t.text = (sev t.x, 0) := by unfold It.text; rw [if_neg (by omega), if_neg (by omega), if_pos h]
    have e3 : t.again = t := by unfold It.again; rw [if_neg (by omega)]
    have e4 : t.want = (t.x, []) := by unfold It.want; rw [if_neg (by omega), if_neg (by omega), if_pos h]
    rw [e2, e3, e4]
    unfold It.get
    rw [if_neg (by omega), if_neg (by omega), if_neg (by omega), getN_sev _ hx]
  · have e2 : t.text = (sev (zigN t.i), 0) := by unfold It.text; rw [if_neg (by omega), if_neg (by omega), if_neg (by omega), if_pos h]
    have e3 : t.again = t := by unfold It.again; rw [if_neg (by omega)]
    have e4 : t.want = (zigN t.i, []) := by unfold It.want; rw [if_neg (by omega), if_neg (by omega), if_neg (by omega), if_pos h]
    rw [e2, e3, e4]
    unfold It.get
    rw [if_neg (by omega), if_neg (by omega), if_neg (by omega), getN_sev _ (zigN_lt _ t.i_bd.1 t.i_bd.2)]
  · have e2 : t.text = (sev t.c.length ++ t.c, 0) := by unfold It.text; rw [if_neg (by omega), if_neg (by omega), if_neg (by omega), if_neg (by omega)]
    have e3 : t.again = { t with n := 200 } := by unfold It.again; rw [if_pos h]
    have e4 : t.want = (0, t.c) := by unfold It.want; rw [if_neg (by omega), if_neg (by omega), if_neg (by omega), if_neg (by omega)]
    have hc : t.c.length ≤ 200 := by unfold It.c; rw [List.length_take]; omega
    rw [e2, e3, e4]
    unfold It.get
    simp only
    rw [if_neg (by omega), if_neg (by omega), if_pos h, getB_bytes t.c hc r]
theorem again_ok {w : World} {G : Nat} {t : It} (h : t.ok w G) : t.again.ok w G := by
  unfold It.again
  split
  · exact ⟨h.k, h.x, ⟨by simp only; omega, by simp only; omega⟩, h.rd, h.nil, h.lt, h.len⟩
  · exact h
/-- An item is read again. -/
theorem again_read (g G : Nat) (t : It) (r : List UInt8) (w : World) (h : RR w g (0, t.text.1 ++ r)) (ht : t.ok w G) (he : t.text.2 = 0) :
    Calls Try.prog 14 #[.pointer (some ⟨g, 0, none⟩), t.again.v] w (fun e w' => ∃ ad len cap, e = .returned (.tuple #[.int .u64 ((t.want.1 : Nat) : Int), .slice ad len cap]) ∧ (convert 25 9 (.slice ad len cap)).run Try.prog w' = .ok (.string (strB t.want.2)) w' ∧ RR w' g (0, r) ∧ RStep w w' g) := by
  refine (read_item g G _ t.again w h (again_ok ht)).mono fun e w' hh => ?_
  have hg := again_get t ht.x he r
  unfold RdPost at hh
  simp only [hg] at hh
  obtain ⟨ad, cap, rfl, ho, hr, hs⟩ := hh
  exact ⟨ad, _, cap, rfl, ho.str (Below.refl _ _), hr, hs⟩
theorem wrap_256 (n : Nat) (h : n < 8) : IntKind.u64.wrap ((2 : Int) ^ (8 * n)) = ((256 ^ n : Nat) : Int) := by
  have e0 : (256 : Nat) ^ n = 2 ^ (8 * n) := by rw [Nat.pow_mul]
  have h1 : (256 : Nat) ^ n ≤ 72057594037927936 := Nat.le_trans (Nat.pow_le_pow_right (by omega) (show n ≤ 7 by omega)) (by omega)
  rw [e0] at h1 ⊢
  have e : (2 : Int) ^ (8 * n) = ((2 ^ (8 * n) : Nat) : Int) := by push_cast; rfl
  rw [e, IntKind.wrap_u64]
  generalize 2 ^ (8 * n) = p at *
  omega
theorem kind4 (k : Nat) : (((k : Nat) : Int) % 5 == 4) = decide (k % 5 = 4) := by rw [Bool.eq_iff_iff]; simp; omega
end Go.Proofs.Ytglnclcoinpakaa.Buf
