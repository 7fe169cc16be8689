/- Items that are written or read: put, text; the chapter's example. -/
import Derived.Test.YtglnclcoinpakaaBufC
import Derived.Test.YtglnclcoinpakaaBufH
namespace Go.Proofs.Ytglnclcoinpakaa.Buf
open Go.ChangeShapes Go.WideShapes Go.ChangeAt Go.RowKit
open Go.Proofs.Ytglnclcoinpakaa.Byt Go.Proofs.Ytglnclcoinpakaa.Units Go.Proofs.Ytglnclcoinpakaa.BufM
set_option linter.unusedVariables false

/-- An item: its kind, its number, its width, where its bytes lie, its bytes. -/
structure It where
  k : Nat
  x : Nat
  n : Int
  ad : Option Addr
  cap : Nat
  b : List UInt8
  deriving Inhabited
def It.v (t : It) : Value := .agg #[.int .u8 (t.k : Int), .int .u64 (t.x : Int), .int .i64 t.n, .slice t.ad t.b.length t.cap]
/-- An item lies in the world, below block G. -/
structure It.ok (w : World) (G : Nat) (t : It) : Prop where
  k : t.k < 256
  x : t.x < 18446744073709551616
  n : -9223372036854775808 ≤ t.n ∧ t.n ≤ 9223372036854775807
  rd : RdB w t.ad t.b
  nil : t.ad = none → t.cap = 0
  lt : t.b ≠ [] → ∀ b o, t.ad = some ⟨b, o, none⟩ → b < G
  len : t.b.length ≤ t.cap ∧ t.cap ≤ 9223372036854775807
theorem It.ok.kept {w w' : World} {G : Nat} {t : It} (h : t.ok w G) (hk : ∀ b, b < G → w'.heap[b]? = w.heap[b]?) : t.ok w' G :=
  ⟨h.k, h.x, h.n, rd_kept h.rd fun hne b o e _ => hk b (h.lt hne b o e), h.nil, h.lt, h.len⟩
/-- The number with its sign. -/
def It.i (t : It) : Int := wrap64 (t.x : Int)
theorem It.i_bd (t : It) : -9223372036854775808 ≤ t.i ∧ t.i ≤ 9223372036854775807 := by unfold It.i wrap64; omega
def It.c (t : It) : List UInt8 := t.b.take 200
/-- An item as bytes; the error. -/
def It.text (t : It) : List UInt8 × Nat :=
  if t.k % 5 = 0 then ([UInt8.ofNat (t.x % 256)], 0)
  else if t.k % 5 = 1 then (if t.n < 1 ∨ 8 < t.n then ([], 1) else (fixB t.x t.n.toNat, 0))
  else if t.k % 5 = 2 then (sev t.x, 0)
  else if t.k % 5 = 3 then (sev (zigN t.i), 0)
  else (sev t.c.length ++ t.c, 0)
/-- The writer behind an item. -/
def It.put (m : Nat) (s : Int × List UInt8) (t : It) : Int × List UInt8 :=
  if t.k % 5 = 0 then wByte m s [UInt8.ofNat (t.x % 256)]
  else if t.k % 5 = 1 then wFix m s t.x t.n
  else if t.k % 5 = 2 then wNum m s t.x
  else if t.k % 5 = 3 then wNum m s (zigN t.i)
  else wBytes m s t.c
theorem kind_no {k j : Nat} (h : k % 5 ≠ j) : (((k : Nat) : Int) % 5 == (j : Int)) = false := by simp; omega
theorem kind_yes {k j : Nat} (h : k % 5 = j) : (((k : Nat) : Int) % 5 == (j : Int)) = true := by simp; omega
/-- What the walk is told of an item's kind. -/
theorem kinds (k : Nat) : (((k : Nat) : Int) % 5 == 0) = decide (k % 5 = 0) ∧ (((k : Nat) : Int) % 5 == 1) = decide (k % 5 = 1) ∧ (((k : Nat) : Int) % 5 == 2) = decide (k % 5 = 2) ∧ (((k : Nat) : Int) % 5 == 3) = decide (k % 5 = 3) := by
  refine ⟨?_, ?_, ?_, ?_⟩ <;> (rw [Bool.eq_iff_iff]; simp; omega)
set_option maxRecDepth 100000 in
set_option maxHeartbeats 400000 in
theorem put_any (g B m G : Nat) (s : Int × List UInt8) (row : Option Nat) (t : It) (w : World) (h : WR w B g m s row) (ht : t.ok w G) (hG : G ≤ B) (hm : s.2.length ≤ 800000) :
    Calls Try.prog 9 #[.pointer (some ⟨g, 0, none⟩), t.v] w (WPost w B g m row (t.put m s)) := by
  obtain ⟨k, x, n, ad, cap, b⟩ := t
  have hle := h.le
  obtain ⟨q0, q1, q2, q3⟩ := kinds k
  have hB : Below w.heap.size w (w.alloc (.cells #[.int .u8 (k : Int), .int .u64 (x : Int), .int .i64 n, .slice ad b.length cap] 29)) := (Below.refl _ _).alloc (Nat.le_refl _) _
  have hw1 := h.kept hB
  obtain ⟨w1, hw⟩ : ∃ w1, Hid (w.alloc (.cells #[.int .u8 (k : Int), .int .u64 (x : Int), .int .i64 n, .slice ad b.length cap] 29) = w1) := ⟨_, Lib.hid rfl⟩
  have hkx := ht.k
  have hxx := ht.x
  have hnn := ht.n
  simp only at hkx hxx hnn
  by_cases h0 : k % 5 = 0
  · have e : It.put m s ⟨k, x, n, ad, cap, b⟩ = wByte m s [UInt8.ofNat (x % 256)] := by unfold It.put; simp only [h0, if_true]
    rw [e]
    rw [decide_eq_true h0] at q0
    have CB : Hid (∀ w2, w2 = ((w.alloc (.cells #[.int .u8 (k : Int), .int .u64 (x : Int), .int .i64 n, .slice ad b.length cap] 29)).alloc (.cells #[.int .u8 ((x : Int) % 256)] 5)) → Calls Try.prog 22 #[.pointer (some ⟨g, 0, none⟩), .slice (some ⟨w.heap.size + 1, 0, none⟩) 1 1] w2 (WPost w B g m row (wByte m s [UInt8.ofNat (x % 256)]))) := Lib.hid (fun w2 h2 => by
      subst h2
      have hB2 := hB.alloc hB.size (.cells #[.int .u8 ((x : Int) % 256)] 5)
      have hb := Blk.new (w.alloc (.cells #[.int .u8 (k : Int), .int .u64 (x : Int), .int .i64 n, .slice ad b.length cap] 29)) 5 #[.int .u8 ((x : Int) % 256)]
      rw [show (w.alloc (.cells #[.int .u8 (k : Int), .int .u64 (x : Int), .int .i64 n, .slice ad b.length cap] 29)).heap.size = w.heap.size + 1 from by simp] at hb
      refine (byte_any g B m s row (some ⟨w.heap.size + 1, 0, none⟩) 1 1 [UInt8.ofNat (x % 256)] _ (h.kept hB2) rfl (by omega) (rd_head hb (fun i hi => ?_)) (fun h => by cases h)).mono fun e w' hh => WPost.ahead hB2 hle hh
      obtain rfl : i = 0 := by simpa using hi
      show some _ = some (bv (UInt8.ofNat (x % 256)))
      rw [bv_of (Nat.mod_lt _ (by omega))]
      rfl)
    clear h ht hB hw1 hw hG h0 q1 q2 q3 e
    unfold It.v
    go_enter Try.func9, Try.ntmps9
    go_wp2_with fail
    refine (CB.out _ rfl).mono ?_
    intro e w' hh; obtain ⟨rfl, HP⟩ := hh.ret; clear hh
    go_wp2_with fail
    go_returns
    exact HP.out
  rw [decide_eq_false h0] at q0
  by_cases h1 : k % 5 = 1
  · have e : It.put m s ⟨k, x, n, ad, cap, b⟩ = wFix m s x n := by simp only [It.put]; rw [if_neg h0, if_pos h1]
    rw [e]
    rw [decide_eq_true h1] at q1
    have CB : Hid (∀ w2, w2 = w.alloc (.cells #[.int .u8 (k : Int), .int .u64 (x : Int), .int .i64 n, .slice ad b.length cap] 29) → Calls Try.prog 23 #[.pointer (some ⟨g, 0, none⟩), .int .u64 (x : Int), .int .i64 n] w2 (WPost w B g m row (wFix m s x n))) := Lib.hid (fun w2 h2 => by
      subst h2
      exact (fixed_any g B m s row x n _ hw1 hxx (by omega)).mono fun e w' hh => WPost.ahead hB hle hh)
    clear h ht hB hw1 hw hG h0 h1 q2 q3 e
    unfold It.v
    go_enter Try.func9, Try.ntmps9
    go_wp2_with fail
    refine (CB.out _ rfl).mono ?_
    intro e w' hh; obtain ⟨rfl, HP⟩ := hh.ret; clear hh
    go_wp2_with fail
    go_returns
    exact HP.out
  rw [decide_eq_false h1] at q1
  by_cases h2 : k % 5 = 2
  · have e : It.put m s ⟨k, x, n, ad, cap, b⟩ = wNum m s x := by simp only [It.put]; rw [if_neg h0, if_neg h1, if_pos h2]
    rw [e]
    rw [decide_eq_true h2] at q2
    have CB : Hid (∀ w2, w2 = w.alloc (.cells #[.int .u8 (k : Int), .int .u64 (x : Int), .int .i64 n, .slice ad b.length cap] 29) → Calls Try.prog 21 #[.pointer (some ⟨g, 0, none⟩), .int .u64 (x : Int)] w2 (WPost w B g m row (wNum m s x))) := Lib.hid (fun w2 h2 => by
      subst h2
      exact (num_any g B m s row x _ hw1 hxx (by omega)).mono fun e w' hh => WPost.ahead hB hle hh)
    clear h ht hB hw1 hw hG h0 h1 h2 q3 e
    unfold It.v
    go_enter Try.func9, Try.ntmps9
    go_wp2_with fail
    refine (CB.out _ rfl).mono ?_
    intro e w' hh; obtain ⟨rfl, HP⟩ := hh.ret; clear hh
    go_wp2_with fail
    go_returns
    exact HP.out
  rw [decide_eq_false h2] at q2
  by_cases h3 : k % 5 = 3
  · have e : It.put m s ⟨k, x, n, ad, cap, b⟩ = wNum m s (zigN (wrap64 (x : Int))) := by simp only [It.put, It.i]; rw [if_neg h0, if_neg h1, if_neg h2, if_pos h3]
    rw [e]
    rw [decide_eq_true h3] at q3
    have hbd := It.i_bd ⟨k, x, n, ad, cap, b⟩
    have CB : Hid (∀ w2, w2 = w.alloc (.cells #[.int .u8 (k : Int), .int .u64 (x : Int), .int .i64 n, .slice ad b.length cap] 29) → Calls Try.prog 24 #[.pointer (some ⟨g, 0, none⟩), .int .i64 (wrap64 (x : Int))] w2 (WPost w B g m row (wNum m s (zigN (wrap64 (x : Int)))))) := Lib.hid (fun w2 h2 => by
      subst h2
      exact (int_any g B m s row _ _ hw1 hbd.1 hbd.2 (by omega)).mono fun e w' hh => WPost.ahead hB hle hh)
    clear h ht hB hw1 hw hG h0 h1 h2 h3 e hbd
    unfold It.v
    go_enter Try.func9, Try.ntmps9
    go_wp2_with fail
    refine (CB.out _ rfl).mono ?_
    intro e w' hh; obtain ⟨rfl, HP⟩ := hh.ret; clear hh
    go_wp2_with fail
    go_returns
    exact HP.out
  rw [decide_eq_false h3] at q3
  have e : It.put m s ⟨k, x, n, ad, cap, b⟩ = wBytes m s (b.take 200) := by simp only [It.put, It.c]; rw [if_neg h0, if_neg h1, if_neg h2, if_neg h3]
  rw [e]
  have hlc := ht.len
  simp only at hlc
  have CB : Hid (∀ w2 c, w2 = w.alloc (.cells #[.int .u8 (k : Int), .int .u64 (x : Int), .int .i64 n, .slice ad b.length cap] 29) → c = (min (b.length : Int) 200).toNat → Calls Try.prog 25 #[.pointer (some ⟨g, 0, none⟩), .slice ad c cap] w2 (WPost w B g m row (wBytes m s (b.take 200)))) := Lib.hid (fun w2 c h2 hc => by
    subst h2
    have hl : (b.take 200).length = c := by rw [List.length_take, hc]; omega
    refine (wbytes_any g B m s row ad c cap (b.take 200) _ hw1 hl (by rw [← hl, List.length_take]; omega) ((ht.rd.below hB).take 200) ht.nil (fun hne b' o he => ?_)).mono fun e w' hh => WPost.ahead hB hle hh
    have hb := ht.lt (by intro h0; simp only at h0; rw [h0] at hne; simp at hne) b' o he
    have hg := h.ge
    obtain ⟨v, _, ho, hr⟩ := h.mem
    refine ⟨by omega, fun hrow => ?_⟩
    have := (own_at ho (hr.trans hrow.symm)).1
    omega)
  have hcap : (b.length : Int) ≤ (cap : Int) ∧ (b.length : Int) ≤ 9223372036854775807 := by omega
  obtain ⟨hcap, hc63⟩ := hcap
  clear h ht hB hw1 hw hG h0 h1 h2 h3 e
  simp only [It.v]
  generalize b.length = len at *
  go_enter Try.func9, Try.ntmps9
  go_wp2_with fail
  all_goals
    refine (CB.out _ _ rfl (by omega)).mono ?_
    intro e w' hh; obtain ⟨rfl, HP⟩ := hh.ret; clear hh
    go_wp2_with fail
    go_returns
    exact HP.out
/-- What text leaves: the bytes in memory of the call's own, the error. -/
def TPost (r : List UInt8 × Nat) (w : World) (e : Ending) (w' : World) : Prop :=
  ∃ ad cap, e = .returned (.tuple #[.slice ad r.1.length cap, .int .i64 ((r.2 : Nat) : Int)]) ∧ OwnB w' w.heap.size (.slice ad r.1.length cap) r.1 ∧ Below w.heap.size w w'
theorem TPost.of {r : List UInt8 × Nat} {w w1 : World} {l : List UInt8} {e : Nat} {ad : Option Addr} {n cap : Nat} {w' : World} (hr : r = (l, e)) (hn : n = l.length) (h : OwnB w' w1.heap.size (.slice ad l.length cap) l) (hB : Below w.heap.size w w1) (hB' : Below w1.heap.size w1 w') : TPost r w (.returned (.tuple #[.slice ad n cap, .int .i64 (e : Int)])) w' := by
  subst hr hn
  exact ⟨ad, cap, rfl, Own.mono h hB.size, hB.trans (hB'.mono hB.size)⟩
set_option maxRecDepth 100000 in
set_option maxHeartbeats 400000 in
theorem text_any (G : Nat) (t : It) (w : World) (ht : t.ok w G) :
    Calls Try.prog 10 #[t.v] w (TPost t.text w) := by
  obtain ⟨k, x, n, ad, cap, b⟩ := t
  obtain ⟨q0, q1, q2, q3⟩ := kinds k
  have hB : Below w.heap.size w (w.alloc (.cells #[.int .u8 (k : Int), .int .u64 (x : Int), .int .i64 n, .slice ad b.length cap] 29)) := (Below.refl _ _).alloc (Nat.le_refl _) _
  have hkx := ht.k
  have hxx := ht.x
  have hnn := ht.n
  have hlc := ht.len
  simp only at hkx hxx hnn hlc
  by_cases h0 : k % 5 = 0
  · have e : It.text ⟨k, x, n, ad, cap, b⟩ = ([UInt8.ofNat (x % 256)], 0) := by simp only [It.text]; rw [if_pos h0]
    rw [decide_eq_true h0] at q0
    have HP : Hid (TPost (It.text ⟨k, x, n, ad, cap, b⟩) w (.returned (.tuple #[.slice (some ⟨w.heap.size + 1, 0, none⟩) 1 1, .int .i64 0])) ((w.alloc (.cells #[.int .u8 (k : Int), .int .u64 (x : Int), .int .i64 n, .slice ad b.length cap] 29)).alloc (.cells #[.int .u8 ((x : Int) % 256)] 5))) := Lib.hid (by
      have h1 := own_one (w.alloc (.cells #[.int .u8 (k : Int), .int .u64 (x : Int), .int .i64 n, .slice ad b.length cap] 29)) (UInt8.ofNat (x % 256))
      rw [bv_of (Nat.mod_lt _ (by omega)), show (w.alloc (.cells #[.int .u8 (k : Int), .int .u64 (x : Int), .int .i64 n, .slice ad b.length cap] 29)).heap.size = w.heap.size + 1 from by simp] at h1
      refine TPost.of (w1 := (w.alloc (.cells #[.int .u8 (k : Int), .int .u64 (x : Int), .int .i64 n, .slice ad b.length cap] 29))) e rfl (Own.mono h1 (by simp)) hB ((Below.refl _ _).alloc (Nat.le_refl _) _))
    clear ht hB h0 q1 q2 q3 e hnn hlc
    simp only [It.v]
    go_enter Try.func10, Try.ntmps10
    go_wp2_with fail
    first | exact HP.out | (go_ret2; exact HP.out)
  rw [decide_eq_false h0] at q0
  by_cases h1 : k % 5 = 1
  · rw [decide_eq_true h1] at q1
    by_cases hn : n < 1 ∨ 8 < n
    · have e : It.text ⟨k, x, n, ad, cap, b⟩ = ([], 1) := by simp only [It.text]; rw [if_neg h0, if_pos h1, if_pos hn]
      have HP : Hid (TPost (It.text ⟨k, x, n, ad, cap, b⟩) w (.returned (.tuple #[.slice none 0 0, .int .i64 1])) (w.alloc (.cells #[.int .u8 (k : Int), .int .u64 (x : Int), .int .i64 n, .slice ad b.length cap] 29))) := Lib.hid (TPost.of (w1 := (w.alloc (.cells #[.int .u8 (k : Int), .int .u64 (x : Int), .int .i64 n, .slice ad b.length cap] 29))) e rfl (World.ownsRow_nil _ _ _ _) hB (Below.refl _ _))
      by_cases hn1 : n < 1
      · clear ht hB h0 h1 q2 q3 e hlc hn
        simp only [It.v]
        go_enter Try.func10, Try.ntmps10
        go_wp2_with fail
        first | exact HP.out | (go_ret2; exact HP.out)
      · have hn8 : 8 < n := by omega
        have hn1' : decide (n < 1) = false := decide_eq_false hn1
        clear ht hB h0 h1 q2 q3 e hlc hn
        simp only [It.v]
        go_enter Try.func10, Try.ntmps10
        go_wp2_with fail
        first | exact HP.out | (go_ret2; exact HP.out)
    · have e : It.text ⟨k, x, n, ad, cap, b⟩ = (fixB x n.toNat, 0) := by simp only [It.text]; rw [if_neg h0, if_pos h1, if_neg hn]
      obtain ⟨j, rfl⟩ := Int.eq_ofNat_of_zero_le (show 0 ≤ n by omega)
      rw [Int.toNat_natCast] at e
      have CB : Hid (∀ w2, w2 = (w.alloc (.cells #[.int .u8 (k : Int), .int .u64 (x : Int), .int .i64 (j : Int), .slice ad b.length cap] 29)) → Calls Try.prog 30 #[.int .u64 (x : Int), .int .i64 (j : Int)] w2 (fun e w' => ∃ ad2 len2 cap2, e = .returned (.slice ad2 len2 cap2) ∧ Hid (TPost (It.text ⟨k, x, (j : Int), ad, cap, b⟩) w (.returned (.tuple #[.slice ad2 len2 cap2, .int .i64 0])) w'))) := Lib.hid (fun w2 h2 => by
        subst h2
        refine (rFixed_any x j hxx (by omega) _).mono fun e' w' hh => ?_
        obtain ⟨ad2, cap2, rfl, ho, hB2⟩ := hh
        exact ⟨ad2, _, cap2, rfl, Lib.hid (TPost.of (w1 := (w.alloc (.cells #[.int .u8 (k : Int), .int .u64 (x : Int), .int .i64 (j : Int), .slice ad b.length cap] 29))) e rfl ho hB hB2)⟩)
      clear ht hB h0 h1 q2 q3 hlc
      have hn1 : (1 : Int) ≤ (j : Int) ∧ (j : Int) ≤ 8 := by omega
      obtain ⟨hn1, hn8⟩ := hn1
      have hn1' : decide ((j : Int) < 1) = false := decide_eq_false (by omega)
      have hn8' : decide ((8 : Int) < (j : Int)) = false := decide_eq_false (by omega)
      clear hn e
      simp only [It.v]
      go_enter Try.func10, Try.ntmps10
      go_wp2_with fail
      refine (CB.out _ rfl).mono ?_; rintro e w' ⟨ad2, len2, cap2, rfl, HP⟩
      go_wp2_with fail
      first | exact HP.out | (go_ret2; exact HP.out)
  rw [decide_eq_false h1] at q1
  by_cases h2 : k % 5 = 2
  · rw [decide_eq_true h2] at q2
    have e : It.text ⟨k, x, n, ad, cap, b⟩ = (sev x, 0) := by simp only [It.text]; rw [if_neg h0, if_neg h1, if_pos h2]
    have CB : Hid (∀ w2, w2 = (w.alloc (.cells #[.int .u8 (k : Int), .int .u64 (x : Int), .int .i64 n, .slice ad b.length cap] 29)) → Calls Try.prog 31 #[.int .u64 (x : Int)] w2 (fun e w' => ∃ ad2 len2 cap2, e = .returned (.slice ad2 len2 cap2) ∧ Hid (TPost (It.text ⟨k, x, n, ad, cap, b⟩) w (.returned (.tuple #[.slice ad2 len2 cap2, .int .i64 0])) w'))) := Lib.hid (fun w2 h2 => by
      subst h2
      refine (rNum_any x hxx _).mono fun e' w' hh => ?_
      obtain ⟨ad2, cap2, rfl, ho, hB2⟩ := hh
      exact ⟨ad2, _, cap2, rfl, Lib.hid (TPost.of (w1 := (w.alloc (.cells #[.int .u8 (k : Int), .int .u64 (x : Int), .int .i64 n, .slice ad b.length cap] 29))) e rfl ho hB hB2)⟩)
    clear ht hB h0 h1 h2 q3 hlc hnn e
    simp only [It.v]
    go_enter Try.func10, Try.ntmps10
    go_wp2_with fail
    refine (CB.out _ rfl).mono ?_; rintro e w' ⟨ad2, len2, cap2, rfl, HP⟩
    go_wp2_with fail
    first | exact HP.out | (go_ret2; exact HP.out)
  rw [decide_eq_false h2] at q2
  by_cases h3 : k % 5 = 3
  · rw [decide_eq_true h3] at q3
    have e : It.text ⟨k, x, n, ad, cap, b⟩ = (sev (zigN (wrap64 (x : Int))), 0) := by simp only [It.text, It.i]; rw [if_neg h0, if_neg h1, if_neg h2, if_pos h3]
    have hbd := It.i_bd ⟨k, x, n, ad, cap, b⟩
    have CZ : Hid (∀ w2, Calls Try.prog 19 #[.int .i64 (wrap64 (x : Int))] w2 fun e w' => e = .returned (.int .u64 ((zigN (wrap64 (x : Int)) : Nat) : Int)) ∧ w2 = w') := Lib.hid (fun w2 => rzig_nat _ hbd.1 hbd.2 w2)
    have hz := zigN_lt _ hbd.1 hbd.2
    simp only [It.i] at hz
    have CB : Hid (∀ w2, w2 = (w.alloc (.cells #[.int .u8 (k : Int), .int .u64 (x : Int), .int .i64 n, .slice ad b.length cap] 29)) → Calls Try.prog 31 #[.int .u64 ((zigN (wrap64 (x : Int)) : Nat) : Int)] w2 (fun e w' => ∃ ad2 len2 cap2, e = .returned (.slice ad2 len2 cap2) ∧ Hid (TPost (It.text ⟨k, x, n, ad, cap, b⟩) w (.returned (.tuple #[.slice ad2 len2 cap2, .int .i64 0])) w'))) := Lib.hid (fun w2 h2 => by
      subst h2
      refine (rNum_any _ hz _).mono fun e' w' hh => ?_
      obtain ⟨ad2, cap2, rfl, ho, hB2⟩ := hh
      exact ⟨ad2, _, cap2, rfl, Lib.hid (TPost.of (w1 := (w.alloc (.cells #[.int .u8 (k : Int), .int .u64 (x : Int), .int .i64 n, .slice ad b.length cap] 29))) e rfl ho hB hB2)⟩)
    clear ht hB h0 h1 h2 h3 hlc hnn e hbd
    simp only [It.v]
    go_enter Try.func10, Try.ntmps10
    go_wp2_with fail
    refine (CZ.out _).mono ?_; rintro e w' ⟨rfl, rfl⟩
    go_wp2_with fail
    refine (CB.out _ rfl).mono ?_; rintro e w' ⟨ad2, len2, cap2, rfl, HP⟩
    go_wp2_with fail
    first | exact HP.out | (go_ret2; exact HP.out)
  rw [decide_eq_false h3] at q3
  have e : It.text ⟨k, x, n, ad, cap, b⟩ = (sev (b.take 200).length ++ b.take 200, 0) := by simp only [It.text, It.c]; rw [if_neg h0, if_neg h1, if_neg h2, if_neg h3]
  have CB : Hid (∀ w2 c, w2 = (w.alloc (.cells #[.int .u8 (k : Int), .int .u64 (x : Int), .int .i64 n, .slice ad b.length cap] 29)) → c = (min (b.length : Int) 200).toNat → Calls Try.prog 32 #[.slice ad c cap] w2 (fun e w' => ∃ ad2 len2 cap2, e = .returned (.slice ad2 len2 cap2) ∧ Hid (TPost (It.text ⟨k, x, n, ad, cap, b⟩) w (.returned (.tuple #[.slice ad2 len2 cap2, .int .i64 0])) w'))) := Lib.hid (fun w2 c h2 hc => by
    subst h2
    have hl : (b.take 200).length = c := by rw [List.length_take, hc]; omega
    rw [hl] at e
    refine (rBytes_any ad c cap (b.take 200) _ hl (by omega) ((ht.rd.below hB).take 200) ht.nil).mono fun e' w' hh => ?_
    obtain ⟨ad2, cap2, rfl, ho, hB2⟩ := hh
    exact ⟨ad2, _, cap2, rfl, Lib.hid (TPost.of (w1 := (w.alloc (.cells #[.int .u8 (k : Int), .int .u64 (x : Int), .int .i64 n, .slice ad b.length cap] 29))) e rfl ho hB hB2)⟩)
  have hcap : (b.length : Int) ≤ (cap : Int) ∧ (b.length : Int) ≤ 9223372036854775807 := by omega
  obtain ⟨hcap, hc63⟩ := hcap
  clear ht hB h0 h1 h2 h3 e
  obtain ⟨tx, htx⟩ : ∃ tx, It.text ⟨k, x, n, ad, cap, b⟩ = tx := ⟨_, rfl⟩
  rw [htx] at CB ⊢
  clear htx
  simp only [It.v]
  generalize b.length = len at *
  go_enter Try.func10, Try.ntmps10
  go_wp2_with fail
  all_goals
    refine (CB.out _ _ rfl (by omega)).mono ?_; rintro e w' ⟨ad2, len2, cap2, rfl, HP⟩
    go_wp2_with fail
    first | exact HP.out | (go_ret2; exact HP.out)
end Go.Proofs.Ytglnclcoinpakaa.Buf
