/- Items that are read, by the program and by the document. -/
import Derived.Test.YtglnclcoinpakaaBufL
import Derived.Test.YtglnclcoinpakaaBufN
namespace Go.Proofs.Ytglnclcoinpakaa.Buf
open Go.ChangeShapes Go.WideShapes Go.ChangeAt Go.RowKit
open Go.Proofs.Ytglnclcoinpakaa.Byt Go.Proofs.Ytglnclcoinpakaa.Units Go.Proofs.Ytglnclcoinpakaa.BufM
set_option linter.unusedVariables false

/-- An item read off bytes: the number, the bytes, the rest, the error. -/
def It.get (t : It) (l : List UInt8) : Nat × List UInt8 × List UInt8 × Nat :=
  if t.k % 5 = 0 then ((getF l 1).1, [], (getF l 1).2)
  else if t.k % 5 = 1 then ((getF l t.n).1, [], (getF l t.n).2)
  else if t.k % 5 = 4 then (0, getB l t.n)
  else ((getN l).1, [], (getN l).2)
/-- What read leaves. -/
def RdPost (t : It) (w : World) (g : Nat) (s : Int × List UInt8) (e : Ending) (w' : World) : Prop :=
  ∃ ad cap, e = .returned (.tuple #[.int .u64 (((t.get s.2).1 : Nat) : Int), .slice ad (t.get s.2).2.1.length cap]) ∧ OwnB w' w.heap.size (.slice ad (t.get s.2).2.1.length cap) (t.get s.2).2.1 ∧ RR w' g (upd s (t.get s.2).2.2) ∧ RStep w w' g
theorem RdPost.num {t : It} {w w1 : World} {g : Nat} {s : Int × List UInt8} {x : Nat} {r : List UInt8 × Nat} {w' : World} (he : t.get s.2 = (x, [], r)) (hB : Below w.heap.size w w1) (hg : g < w.heap.size) (hr : RR w' g (upd s r)) (hs : RStep w1 w' g) :
    RdPost t w g s (.returned (.tuple #[.int .u64 (x : Int), .slice none 0 0])) w' := by
  unfold RdPost
  rw [he]
  exact ⟨none, 0, rfl, World.ownsRow_nil _ _ _ _, hr, (RStep.of_below hB (by omega)).trans hs⟩
set_option maxRecDepth 100000 in
set_option maxHeartbeats 400000 in
theorem read_item (g G : Nat) (s : Int × List UInt8) (t : It) (w : World) (h : RR w g s) (ht : t.ok w G) :
    Calls Try.prog 14 #[.pointer (some ⟨g, 0, none⟩), t.v] w (RdPost t w g s) := by
  obtain ⟨k, x, n, ad, cap, b⟩ := t
  obtain ⟨q0, q1, q2, q3⟩ := kinds k
  have hB : Below w.heap.size w (w.alloc (.cells #[.int .u8 (k : Int), .int .u64 (x : Int), .int .i64 n, .slice ad b.length cap] 29)) := (Below.refl _ _).alloc (Nat.le_refl _) _
  have hlt := h.lt
  have hw1 := h.kept hB
  have hnn := ht.n
  simp only at hnn
  have hkx := ht.k
  simp only at hkx
  by_cases h0 : k % 5 = 0
  · rw [decide_eq_true h0] at q0
    have e : It.get ⟨k, x, n, ad, cap, b⟩ s.2 = ((getF s.2 1).1, [], (getF s.2 1).2) := by simp only [It.get]; rw [if_pos h0]
    have CB : Hid (∀ w2, w2 = (w.alloc (.cells #[.int .u8 (k : Int), .int .u64 (x : Int), .int .i64 n, .slice ad b.length cap] 29)) → Calls Try.prog 26 #[.pointer (some ⟨g, 0, none⟩)] w2 (fun e w' => e = .returned (.int .u8 (((getF s.2 1).1 : Nat) : Int)) ∧ Hid (RdPost ⟨k, x, n, ad, cap, b⟩ w g s (.returned (.tuple #[.int .u64 (((getF s.2 1).1 : Nat) : Int), .slice none 0 0])) w'))) := Lib.hid (fun w2 h2 => by
      subst h2
      exact (rbyte_any g s _ hw1).mono fun e' w' hh => ⟨hh.1, Lib.hid (RdPost.num e hB hlt hh.2.1 hh.2.2)⟩)
    have hby := getF_byte s.2
    generalize (getF s.2 1).1 = y at *
    clear h ht hB hw1 h0 q1 q2 q3 e
    simp only [It.v]
    go_enter Try.func14, Try.ntmps14
    go_wp2_with fail
    refine (CB.out _ rfl).mono ?_; rintro e w' ⟨rfl, HP⟩
    go_wp2_with fail
    first | exact HP.out | (go_ret2; exact HP.out)
  rw [decide_eq_false h0] at q0
  by_cases h1 : k % 5 = 1
  · rw [decide_eq_true h1] at q1
    have e : It.get ⟨k, x, n, ad, cap, b⟩ s.2 = ((getF s.2 n).1, [], (getF s.2 n).2) := by simp only [It.get]; rw [if_neg h0, if_pos h1]
    have CB : Hid (∀ w2, w2 = (w.alloc (.cells #[.int .u8 (k : Int), .int .u64 (x : Int), .int .i64 n, .slice ad b.length cap] 29)) → Calls Try.prog 27 #[.pointer (some ⟨g, 0, none⟩), .int .i64 n] w2 (fun e w' => e = .returned (.int .u64 (((getF s.2 n).1 : Nat) : Int)) ∧ Hid (RdPost ⟨k, x, n, ad, cap, b⟩ w g s (.returned (.tuple #[.int .u64 (((getF s.2 n).1 : Nat) : Int), .slice none 0 0])) w'))) := Lib.hid (fun w2 h2 => by
      subst h2
      exact (rfixed_any g s n _ hw1).mono fun e' w' hh => ⟨hh.1, Lib.hid (RdPost.num e hB hlt hh.2.1 hh.2.2)⟩)
    generalize (getF s.2 n).1 = y at *
    clear h ht hB hw1 h0 h1 q2 q3 e
    simp only [It.v]
    go_enter Try.func14, Try.ntmps14
    go_wp2_with fail
    refine (CB.out _ rfl).mono ?_; rintro e w' ⟨rfl, HP⟩
    go_wp2_with fail
    first | exact HP.out | (go_ret2; exact HP.out)
  rw [decide_eq_false h1] at q1
  by_cases h2 : k % 5 = 2
  · rw [decide_eq_true h2] at q2
    have e : It.get ⟨k, x, n, ad, cap, b⟩ s.2 = ((getN s.2).1, [], (getN s.2).2) := by simp only [It.get]; rw [if_neg h0, if_neg h1, if_neg (by omega)]
    have CB : Hid (∀ w2, w2 = (w.alloc (.cells #[.int .u8 (k : Int), .int .u64 (x : Int), .int .i64 n, .slice ad b.length cap] 29)) → Calls Try.prog 20 #[.pointer (some ⟨g, 0, none⟩)] w2 (fun e w' => e = .returned (.int .u64 (((getN s.2).1 : Nat) : Int)) ∧ Hid (RdPost ⟨k, x, n, ad, cap, b⟩ w g s (.returned (.tuple #[.int .u64 (((getN s.2).1 : Nat) : Int), .slice none 0 0])) w'))) := Lib.hid (fun w2 h2 => by
      subst h2
      exact (rnum_any g s _ hw1).mono fun e' w' hh => ⟨hh.1, Lib.hid (RdPost.num e hB hlt hh.2.1 hh.2.2)⟩)
    generalize (getN s.2).1 = y at *
    clear h ht hB hw1 h0 h1 h2 q3 e
    simp only [It.v]
    go_enter Try.func14, Try.ntmps14
    go_wp2_with fail
    refine (CB.out _ rfl).mono ?_; rintro e w' ⟨rfl, HP⟩
    go_wp2_with fail
    first | exact HP.out | (go_ret2; exact HP.out)
  rw [decide_eq_false h2] at q2
  by_cases h3 : k % 5 = 3
  · rw [decide_eq_true h3] at q3
    have e : It.get ⟨k, x, n, ad, cap, b⟩ s.2 = ((getN s.2).1, [], (getN s.2).2) := by simp only [It.get]; rw [if_neg h0, if_neg h1, if_neg (by omega)]
    have CB : Hid (∀ w2, w2 = (w.alloc (.cells #[.int .u8 (k : Int), .int .u64 (x : Int), .int .i64 n, .slice ad b.length cap] 29)) → Calls Try.prog 28 #[.pointer (some ⟨g, 0, none⟩)] w2 (fun e w' => e = .returned (.int .i64 (zagV (((getN s.2).1 : Nat) : Int))) ∧ Hid (RdPost ⟨k, x, n, ad, cap, b⟩ w g s (.returned (.tuple #[.int .u64 (((getN s.2).1 : Nat) : Int), .slice none 0 0])) w'))) := Lib.hid (fun w2 h2 => by
      subst h2
      exact (rint_any g s _ hw1).mono fun e' w' hh => ⟨hh.1, Lib.hid (RdPost.num e hB hlt hh.2.1 hh.2.2)⟩)
    have hy := getN_lt s.2
    generalize (getN s.2).1 = y at *
    have hzb := zag_bd (y : Int) (by omega) (by omega)
    have CZ : Hid (∀ w2, Calls Try.prog 19 #[.int .i64 (zagV (y : Int))] w2 fun e w' => e = .returned (.int .u64 (y : Int)) ∧ w2 = w') := Lib.hid (fun w2 => by
      have := rzig_nat (zagV (y : Int)) hzb.1 hzb.2 w2
      rwa [zigN_zag] at this)
    generalize zagV (y : Int) = z at *
    clear h ht hB hw1 h0 h1 h2 h3 e
    simp only [It.v]
    go_enter Try.func14, Try.ntmps14
    go_wp2_with fail
    refine (CB.out _ rfl).mono ?_; rintro e w' ⟨rfl, HP⟩
    go_wp2_with fail
    refine (CZ.out _).mono ?_; rintro e w' ⟨rfl, rfl⟩
    go_wp2_with fail
    first | exact HP.out | (go_ret2; exact HP.out)
  rw [decide_eq_false h3] at q3
  have e : It.get ⟨k, x, n, ad, cap, b⟩ s.2 = (0, getB s.2 n) := by simp only [It.get]; rw [if_neg h0, if_neg h1, if_pos (by omega)]
  have CB : Hid (∀ w2, w2 = (w.alloc (.cells #[.int .u8 (k : Int), .int .u64 (x : Int), .int .i64 n, .slice ad b.length cap] 29)) → Calls Try.prog 29 #[.pointer (some ⟨g, 0, none⟩), .int .i64 n] w2 (fun e w' => ∃ ad2 len2 cap2, e = .returned (.slice ad2 len2 cap2) ∧ Hid (RdPost ⟨k, x, n, ad, cap, b⟩ w g s (.returned (.tuple #[.int .u64 0, .slice ad2 len2 cap2])) w'))) := Lib.hid (fun w2 h2 => by
    subst h2
    refine (rbytes_any g s n _ hw1 hnn.2).mono fun e' w' hh => ?_
    obtain ⟨v, rfl, ho, hr, hs⟩ := hh
    obtain ⟨ad2, cap2, rfl, _⟩ := Own.shape ho
    refine ⟨ad2, _, cap2, rfl, Lib.hid ?_⟩
    unfold RdPost
    rw [e]
    exact ⟨ad2, cap2, rfl, Own.mono ho hB.size, hr, (RStep.of_below hB (by omega)).trans hs⟩)
  clear h ht hB hw1 h0 h1 h2 h3 e
  simp only [It.v]
  go_enter Try.func14, Try.ntmps14
  go_wp2_with fail
  refine (CB.out _ rfl).mono ?_; rintro e w' ⟨ad2, len2, cap2, rfl, HP⟩
  go_wp2_with fail
  first | exact HP.out | (go_ret2; exact HP.out)
/-- What get leaves. -/
def GtPost (t : It) (w : World) (G : Nat) (l : List UInt8) (e : Ending) (w' : World) : Prop :=
  ∃ ad len cap ad2 len2 cap2, e = .returned (.tuple #[.int .u64 (((t.get l).1 : Nat) : Int), .slice ad len cap, .slice ad2 len2 cap2, .int .i64 (((t.get l).2.2.2 : Nat) : Int)]) ∧ RdS w' G ad len cap (t.get l).2.1 ∧ RdS w' G ad2 len2 cap2 (t.get l).2.2.1 ∧ Below w.heap.size w w'
theorem GtPost.num {t : It} {w w1 : World} {G : Nat} {l : List UInt8} {r : Nat × List UInt8 × Nat} {n : Nat} {ad2 : Option Addr} {len2 cap2 : Nat} (he : t.get l = (r.1, [], r.2)) (hB : Below w.heap.size w w1) (hr : RdS w1 G ad2 len2 cap2 r.2.1) :
    GtPost t w G l (.returned (.tuple #[.int .u64 ((r.1 : Nat) : Int), .slice none 0 0, .slice ad2 len2 cap2, .int .i64 ((r.2.2 : Nat) : Int)])) (w1.drewN n) := by
  unfold GtPost
  rw [he]
  exact ⟨none, 0, 0, ad2, len2, cap2, rfl, RdS.nil _ _, hr.drewN n, Own.below_drewN hB n⟩
set_option maxRecDepth 100000 in
set_option maxHeartbeats 400000 in
theorem get_item (G : Nat) (ad0 : Option Addr) (len0 cap0 : Nat) (l : List UInt8) (t : It) (w : World) (h : RdS w G ad0 len0 cap0 l) (hG : G ≤ w.heap.size) (hn64 : t.n ≤ 9223372036854775807) (hk8 : t.k < 256) :
    Calls Try.prog 15 #[.slice ad0 len0 cap0, t.v] w (GtPost t w G l) := by
  obtain ⟨k, x, n, ad, cap, b⟩ := t
  obtain ⟨q0, q1, q2, q3⟩ := kinds k
  have hB : Below w.heap.size w (w.alloc (.cells #[.int .u8 (k : Int), .int .u64 (x : Int), .int .i64 n, .slice ad b.length cap] 29)) := (Below.refl _ _).alloc (Nat.le_refl _) _
  have hw1 := h.kept (w' := (w.alloc (.cells #[.int .u8 (k : Int), .int .u64 (x : Int), .int .i64 n, .slice ad b.length cap] 29))) (fun b hb => hB.block b (by omega))
  simp only at hn64 hk8
  by_cases h0 : k % 5 = 0
  · rw [decide_eq_true h0] at q0
    have e : It.get ⟨k, x, n, ad, cap, b⟩ l = ((getF l 1).1, [], (getF l 1).2) := by simp only [It.get]; rw [if_pos h0]
    have CB : Hid (∀ w2, w2 = (w.alloc (.cells #[.int .u8 (k : Int), .int .u64 (x : Int), .int .i64 n, .slice ad b.length cap] 29)) → Calls Try.prog 34 #[.slice ad0 len0 cap0, .int .i64 1] w2 (fun e w' => ∃ (y : Nat) (ad2 : Option Addr) (len2 cap2 er : Nat), e = .returned (.tuple #[.int .u64 (y : Int), .slice ad2 len2 cap2, .int .i64 (er : Int)]) ∧ Hid (GtPost ⟨k, x, n, ad, cap, b⟩ w G l (.returned (.tuple #[.int .u64 (y : Int), .slice none 0 0, .slice ad2 len2 cap2, .int .i64 (er : Int)])) w'))) := Lib.hid (fun w2 h2 => by
      subst h2
      refine (gfix_any ad0 len0 cap0 G l 1 _ hw1).mono fun e' w' hh => ?_
      obtain ⟨ad2, len2, cap2, m, rfl, rfl, hr⟩ := hh
      exact ⟨_, ad2, len2, cap2, _, rfl, Lib.hid (GtPost.num e hB hr)⟩)
    clear h hB hw1 h0 q1 q2 q3 e hG
    simp only [It.v]
    go_enter Try.func15, Try.ntmps15
    go_wp2_with fail
    refine (CB.out _ rfl).mono ?_; rintro e w' ⟨y, ad2, len2, cap2, er, rfl, HP⟩
    go_wp2_with fail
    exact bodyPost_ret (v := .tuple #[.int .u64 (y : Int), .slice none 0 0, .slice ad2 len2 cap2, .int .i64 (er : Int)]) (by simp [results, Try.results15, go_sem]) rfl HP.out
  rw [decide_eq_false h0] at q0
  by_cases h1 : k % 5 = 1
  · rw [decide_eq_true h1] at q1
    have e : It.get ⟨k, x, n, ad, cap, b⟩ l = ((getF l n).1, [], (getF l n).2) := by simp only [It.get]; rw [if_neg h0, if_pos h1]
    have CB : Hid (∀ w2, w2 = (w.alloc (.cells #[.int .u8 (k : Int), .int .u64 (x : Int), .int .i64 n, .slice ad b.length cap] 29)) → Calls Try.prog 34 #[.slice ad0 len0 cap0, .int .i64 n] w2 (fun e w' => ∃ (y : Nat) (ad2 : Option Addr) (len2 cap2 er : Nat), e = .returned (.tuple #[.int .u64 (y : Int), .slice ad2 len2 cap2, .int .i64 (er : Int)]) ∧ Hid (GtPost ⟨k, x, n, ad, cap, b⟩ w G l (.returned (.tuple #[.int .u64 (y : Int), .slice none 0 0, .slice ad2 len2 cap2, .int .i64 (er : Int)])) w'))) := Lib.hid (fun w2 h2 => by
      subst h2
      refine (gfix_any ad0 len0 cap0 G l n _ hw1).mono fun e' w' hh => ?_
      obtain ⟨ad2, len2, cap2, m, rfl, rfl, hr⟩ := hh
      exact ⟨_, ad2, len2, cap2, _, rfl, Lib.hid (GtPost.num e hB hr)⟩)
    clear h hB hw1 h0 h1 q2 q3 e hG
    simp only [It.v]
    go_enter Try.func15, Try.ntmps15
    go_wp2_with fail
    refine (CB.out _ rfl).mono ?_; rintro e w' ⟨y, ad2, len2, cap2, er, rfl, HP⟩
    go_wp2_with fail
    exact bodyPost_ret (v := .tuple #[.int .u64 (y : Int), .slice none 0 0, .slice ad2 len2 cap2, .int .i64 (er : Int)]) (by simp [results, Try.results15, go_sem]) rfl HP.out
  rw [decide_eq_false h1] at q1
  by_cases h2 : k % 5 = 2
  · rw [decide_eq_true h2] at q2
    have e : It.get ⟨k, x, n, ad, cap, b⟩ l = ((getN l).1, [], (getN l).2) := by simp only [It.get]; rw [if_neg h0, if_neg h1, if_neg (by omega)]
    have CB : Hid (∀ w2, w2 = (w.alloc (.cells #[.int .u8 (k : Int), .int .u64 (x : Int), .int .i64 n, .slice ad b.length cap] 29)) → Calls Try.prog 35 #[.slice ad0 len0 cap0] w2 (fun e w' => ∃ (y : Nat) (ad2 : Option Addr) (len2 cap2 er : Nat), e = .returned (.tuple #[.int .u64 (y : Int), .slice ad2 len2 cap2, .int .i64 (er : Int)]) ∧ Hid (GtPost ⟨k, x, n, ad, cap, b⟩ w G l (.returned (.tuple #[.int .u64 (y : Int), .slice none 0 0, .slice ad2 len2 cap2, .int .i64 (er : Int)])) w'))) := Lib.hid (fun w2 h2 => by
      subst h2
      refine (gnum_any ad0 len0 cap0 G l _ hw1).mono fun e' w' hh => ?_
      obtain ⟨ad2, len2, cap2, m, rfl, rfl, hr⟩ := hh
      exact ⟨_, ad2, len2, cap2, _, rfl, Lib.hid (GtPost.num e hB hr)⟩)
    clear h hB hw1 h0 h1 h2 q3 e hG
    simp only [It.v]
    go_enter Try.func15, Try.ntmps15
    go_wp2_with fail
    refine (CB.out _ rfl).mono ?_; rintro e w' ⟨y, ad2, len2, cap2, er, rfl, HP⟩
    go_wp2_with fail
    exact bodyPost_ret (v := .tuple #[.int .u64 (y : Int), .slice none 0 0, .slice ad2 len2 cap2, .int .i64 (er : Int)]) (by simp [results, Try.results15, go_sem]) rfl HP.out
  rw [decide_eq_false h2] at q2
  by_cases h3 : k % 5 = 3
  · rw [decide_eq_true h3] at q3
    have e : It.get ⟨k, x, n, ad, cap, b⟩ l = ((getN l).1, [], (getN l).2) := by simp only [It.get]; rw [if_neg h0, if_neg h1, if_neg (by omega)]
    have CB : Hid (∀ w2, w2 = (w.alloc (.cells #[.int .u8 (k : Int), .int .u64 (x : Int), .int .i64 n, .slice ad b.length cap] 29)) → Calls Try.prog 35 #[.slice ad0 len0 cap0] w2 (fun e w' => ∃ (y : Nat) (ad2 : Option Addr) (len2 cap2 er : Nat), e = .returned (.tuple #[.int .u64 (y : Int), .slice ad2 len2 cap2, .int .i64 (er : Int)]) ∧ Hid (GtPost ⟨k, x, n, ad, cap, b⟩ w G l (.returned (.tuple #[.int .u64 (y : Int), .slice none 0 0, .slice ad2 len2 cap2, .int .i64 (er : Int)])) w'))) := Lib.hid (fun w2 h2 => by
      subst h2
      refine (gnum_any ad0 len0 cap0 G l _ hw1).mono fun e' w' hh => ?_
      obtain ⟨ad2, len2, cap2, m, rfl, rfl, hr⟩ := hh
      exact ⟨_, ad2, len2, cap2, _, rfl, Lib.hid (GtPost.num e hB hr)⟩)
    clear h hB hw1 h0 h1 h2 h3 e hG
    simp only [It.v]
    go_enter Try.func15, Try.ntmps15
    go_wp2_with fail
    refine (CB.out _ rfl).mono ?_; rintro e w' ⟨y, ad2, len2, cap2, er, rfl, HP⟩
    go_wp2_with fail
    exact bodyPost_ret (v := .tuple #[.int .u64 (y : Int), .slice none 0 0, .slice ad2 len2 cap2, .int .i64 (er : Int)]) (by simp [results, Try.results15, go_sem]) rfl HP.out
  rw [decide_eq_false h3] at q3
  have e : It.get ⟨k, x, n, ad, cap, b⟩ l = (0, getB l n) := by simp only [It.get]; rw [if_neg h0, if_neg h1, if_pos (by omega)]
  have CB : Hid (∀ w2, w2 = (w.alloc (.cells #[.int .u8 (k : Int), .int .u64 (x : Int), .int .i64 n, .slice ad b.length cap] 29)) → Calls Try.prog 36 #[.slice ad0 len0 cap0, .int .i64 n] w2 (fun e w' => ∃ (ad1 : Option Addr) (len1 cap1 : Nat) (ad2 : Option Addr) (len2 cap2 er : Nat), e = .returned (.tuple #[.slice ad1 len1 cap1, .slice ad2 len2 cap2, .int .i64 (er : Int)]) ∧ Hid (GtPost ⟨k, x, n, ad, cap, b⟩ w G l (.returned (.tuple #[.int .u64 0, .slice ad1 len1 cap1, .slice ad2 len2 cap2, .int .i64 (er : Int)])) w'))) := Lib.hid (fun w2 h2 => by
    subst h2
    refine (gbytes_any ad0 len0 cap0 G l n _ hw1 hn64).mono fun e' w' hh => ?_
    obtain ⟨ad1, len1, cap1, ad2, len2, cap2, m, rfl, rfl, hr1, hr2⟩ := hh
    refine ⟨ad1, len1, cap1, ad2, len2, cap2, _, rfl, Lib.hid ?_⟩
    unfold GtPost
    rw [e]
    exact ⟨ad1, len1, cap1, ad2, len2, cap2, rfl, hr1.drewN m, hr2.drewN m, Own.below_drewN hB m⟩)
  clear h hB hw1 h0 h1 h2 h3 e hG
  simp only [It.v]
  go_enter Try.func15, Try.ntmps15
  go_wp2_with fail
  refine (CB.out _ rfl).mono ?_; rintro e w' ⟨ad1, len1, cap1, ad2, len2, cap2, er, rfl, HP⟩
  go_wp2_with fail
  exact bodyPost_ret (v := .tuple #[.int .u64 0, .slice ad1 len1 cap1, .slice ad2 len2 cap2, .int .i64 (er : Int)]) (by simp [results, Try.results15, go_sem]) rfl HP.out
end Go.Proofs.Ytglnclcoinpakaa.Buf
