/- Which periods are suggested (layer 26): plain; a clone of links; the configuration that goes with a round. -/
import Derived.Test.YtbbenfjfdmnpmaaBndN
import Derived.Test.YtbbenfjfdmnpmaaOwnA
import Derived.Lib.SliceRun
namespace Go.Proofs.Ytbbenfjfdmnpmaa.Bnd
open Go.ChangeShapes Go.WideShapes Go.ChangeAt Go.RowKit
open Go.Proofs.Ytbbenfjfdmnpmaa.Rw
set_option linter.unusedVariables false
set_option linter.unusedSimpArgs false
/-- A configuration with other periods. -/
def pers (c : Cf) (R W A : Int) : Cf := { c with round := R, window := W, attend := A }
/-- The same numbers, other links. -/
def lnk (c : Cf) (ad : Option Addr) (len cap : Nat) : Cf := { c with links := ad, linksL := len, linksC := cap }
def suit (c : Cf) (R : Int) : Cf := pers c R (R / 4) (2 * (ofN (pers c R (R / 4) 1)).delta)
def suitD (c : Cf) (R : Int) : Cf := pers c R (R / 4) (if goodC (pers c R (R / 4) 1) = true then 2 * (num (pers c R (R / 4) 1)).delta else 1)
def okR (c : Cf) (R : Int) : Bool := enB (suit c R)
theorem suit_good {c : Cf} {R : Int} (h : goodC (pers c R (R / 4) 1) = true) : suitD c R = suit c R := by
  unfold suitD suit ofN
  rw [if_pos h, if_pos h]
theorem per1 {R : Int} (h0 : 4096 ≤ R) (h1 : R ≤ 1099511627776) : perB R = true ∧ perB (R / 4) = true := by
  unfold perB
  simp only [Bool.and_eq_true, decide_eq_true_iff]
  omega
/-- Where the rest is not good no periods help. -/
theorem not_good {c : Cf} {R A : Int} (h0 : 4096 ≤ R) (h1 : R ≤ 1099511627776) (h : goodC (pers c R (R / 4) 1) = false) : goodC (pers c R (R / 4) A) = false := by
  obtain ⟨p1, p2⟩ := per1 h0 h1
  have p3 : perB 1 = true := by decide
  unfold goodC pers at h ⊢
  dsimp only at h ⊢
  rw [p1, p2, p3] at h
  rw [p1, p2]
  simp only [Bool.and_true, Bool.true_and] at h ⊢
  cases hq : perB A with
  | true => simpa using h
  | false => simp
theorem okD {c : Cf} {R : Int} (h0 : 4096 ≤ R) (h1 : R ≤ 1099511627776) : enB (suitD c R) = okR c R := by
  unfold okR
  cases h : goodC (pers c R (R / 4) 1) with
  | true => rw [suit_good h]
  | false =>
    have e1 : goodC (suitD c R) = false := not_good h0 h1 h
    have e2 : goodC (suit c R) = false := not_good h0 h1 h
    unfold enB
    rw [e1, e2, Bool.false_and, Bool.false_and]
theorem ok_good {c : Cf} {R : Int} (h0 : 4096 ≤ R) (h1 : R ≤ 1099511627776) (h : okR c R = true) : suitD c R = suit c R := by
  cases hg : goodC (pers c R (R / 4) 1) with
  | true => exact suit_good hg
  | false =>
    have e2 : goodC (suit c R) = false := not_good h0 h1 hg
    unfold okR enB at h
    rw [e2, Bool.false_and] at h
    cases h
/-- The first from k on, of m. -/
def fstK (c : Cf) : Nat → Nat → Option Nat
  | _, 0 => none
  | k, m + 1 => if okR c (2 ^ k) = true then some k else fstK c (k + 1) m
theorem fstK_hit {c : Cf} {k : Nat} (hk : k ≤ 40) (h : okR c (2 ^ k) = true) : fstK c k (41 - k) = some k := by
  rw [show 41 - k = (40 - k) + 1 by omega]; exact if_pos h
theorem fstK_miss {c : Cf} {k : Nat} (hk : k ≤ 40) (h : okR c (2 ^ k) = false) : fstK c k (41 - k) = fstK c (k + 1) (41 - (k + 1)) := by
  rw [show 41 - k = (40 - k) + 1 by omega, show 41 - (k + 1) = 40 - k by omega]
  show (if okR c (2 ^ k) = true then some k else fstK c (k + 1) (40 - k)) = _
  rw [if_neg (by rw [h]; simp)]
theorem fstK_end (c : Cf) : fstK c 41 (41 - 41) = none := rfl
theorem ok_lnk (c : Cf) (ad : Option Addr) (len cap : Nat) (R : Int) : okR (lnk c ad len cap) R = okR c R := rfl
theorem suit_lnk (c : Cf) (ad : Option Addr) (len cap : Nat) (R : Int) : suit (lnk c ad len cap) R = lnk (suit c R) ad len cap := rfl
theorem fst_lnk (c : Cf) (ad : Option Addr) (len cap : Nat) : ∀ m k, fstK (lnk c ad len cap) k m = fstK c k m
  | 0, k => rfl
  | m + 1, k => by
    show (if okR (lnk c ad len cap) (2 ^ k) = true then some k else fstK (lnk c ad len cap) (k + 1) m) = (if okR c (2 ^ k) = true then some k else fstK c (k + 1) m)
    rw [fst_lnk c ad len cap m, ok_lnk]
theorem pow_bd {k : Nat} (h0 : 12 ≤ k) (h1 : k ≤ 41) : (4096 : Int) ≤ 2 ^ k ∧ (2 : Int) ^ k ≤ 2199023255552 ∧ ((2 : Int) ^ k ≤ 1099511627776 ↔ k ≤ 40) := by
  have ha : (2 : Int) ^ 12 ≤ 2 ^ k := by exact_mod_cast Nat.pow_le_pow_right (by omega : 0 < 2) h0
  have hb : (2 : Int) ^ k ≤ 2 ^ 41 := by exact_mod_cast Nat.pow_le_pow_right (by omega : 0 < 2) h1
  refine ⟨by omega, by omega, ?_, ?_⟩
  · intro h
    by_cases hk : k ≤ 40
    · exact hk
    · obtain rfl : k = 41 := by omega
      omega
  · intro h
    have hc : (2 : Int) ^ k ≤ 2 ^ 40 := by exact_mod_cast Nat.pow_le_pow_right (by omega : 0 < 2) h
    omega
theorem info2 : (Try.prog.info? 50).map (fun i => (i.zero, i.size, i.bytes)) = some (some (.agg #[.int .i64 0, .int .i64 0]), 2, 16) := by kernel_rfl
def ClonePost (n : Nat) (w : World) (x : Ending) (w' : World) : Prop := ∃ ad cap, x = .returned (.slice ad n cap) ∧ Below w.heap.size w w'
theorem clone2_any (ad : Option Addr) (len cap : Nat) (es : List Value) (w : World) (h : Lk w ad len cap es) (hs : cap * 16 ≤ 140737488351232) :
    Calls Try.prog 34 #[.slice ad len cap] w (ClonePost len w) := by
  cases ad with
  | none =>
    obtain rfl : cap = 0 := h.nil rfl
    obtain rfl : len = 0 := by have := h.le; omega
    have hq : (binOp .eql 22 (.slice none 0 0) (.slice none 0 0)).run Try.prog w = .ok (.bool true) w := Lib.run_eql_slice_nil w _ _ none 0 0 0 0 Try.underlying22
    clear h hs
    go_enter Try.func34, Try.ntmps34
    go_wp2_with fail
    go_ret
    exact ⟨none, 0, rfl, Below.refl _ _⟩
  | some a =>
    obtain ⟨i0, hi, hz0, hz1, hz2⟩ := info_parts info2
    have hB0 : Below w.heap.size w (w.alloc (.cells #[] 50)) := (Below.refl _ _).alloc (Nat.le_refl _) _
    have HCS : Hid (∀ a', some a = some a' → ∀ j u, es[j]? = some u → (w.alloc (.cells #[] 50)).cell? (a'.add j) = some u) := Lib.hid (fun a' ha j u hj => by
      rcases (h.below hB0).rd with he | ⟨b, off, e, _, hc⟩
      · rw [he] at hj; simp at hj
      · obtain rfl : a' = ⟨b, off, none⟩ := by rw [ha] at e; exact Option.some.inj e
        rw [Addr.add_lit]
        exact hc j u hj)
    have HE := Lib.hid h.size
    have H1 := Lib.hid h.one
    have hle := h.le
    have hown0 : (w.alloc (.cells #[] 50)).ownsRow w.heap.size 50 2 (.slice (some ⟨w.heap.size, 0, none⟩) 0 0) 0 [] := Rw.OwnS.lit (enc := fun t : Int × Int => [.int .i64 t.1, .int .i64 t.2]) (k := 2) w [] (fun _ => rfl) (by simp)
    have hq : (binOp .eql 22 (.slice (some a) len cap) (.slice none 0 0)).run Try.prog w = .ok (.bool false) w := Lib.run_eql_slice_nil w _ _ (some a) len cap 0 0 Try.underlying22
    have HO := Lib.hid hown0
    have HB0 := Lib.hid hB0
    clear h hown0 hB0
    go_enter Try.func34, Try.ntmps34
    go_wp2_with (at_builtin; refine Own.wpList_append2_any _ rfl _ _ 22 rfl w.heap.size 50 i0 (.agg #[.int .i64 0, .int .i64 0]) 2 16 Try.underlying22 hi hz0 hz1 hz2 rfl (by decide) (.slice (some ⟨w.heap.size, 0, none⟩) 0 0) 0 [] rfl HO.out (some a) len cap es rfl HE.out (fun e => by cases e) HCS.out H1.out (by unfold maxLen; omega) (by omega) (by simp) ?_; intro v' w1 hown' hgrow _)
    rw [Nat.zero_add, List.nil_append] at hown'
    obtain ⟨ad2, cap2, rfl, -⟩ := Own.shape hown'
    have hB1 : Below w.heap.size w w1 := HB0.out.grown hgrow (by simp) (fun k e => by cases e; exact Nat.le_refl _)
    go_ret
    exact ⟨ad2, cap2, rfl, hB1⟩
end Go.Proofs.Ytbbenfjfdmnpmaa.Bnd
