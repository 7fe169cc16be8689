/- The reader: Bytes. -/
import Derived.Test.YtjifdbhgoakjpaaBufF
namespace Go.Proofs.Ytjifdbhgoakjpaa.Buf
open Go.ChangeShapes Go.WideShapes Go.ChangeAt Go.RowKit
open Go.Proofs.Ytjifdbhgoakjpaa.Byt Go.Proofs.Ytjifdbhgoakjpaa.Units Go.Proofs.Ytjifdbhgoakjpaa.BufM
set_option linter.unusedVariables false

def bytS (s : Int × List UInt8) (most : Int) : Int × List UInt8 := upd s (getB s.2 most).2
/-- What a call of Bytes leaves. -/
def BPost (w : World) (g : Nat) (s : Int × List UInt8) (most : Int) (e : Ending) (w' : World) : Prop :=
  ∃ v, e = .returned v ∧ OwnB w' w.heap.size v (getB s.2 most).1 ∧ RR w' g (bytS s most) ∧ RStep w w' g
theorem byt_long (s : Int × List UInt8) (most : Int) (h : most < 0 ∨ most < (((getN s.2).1 : Nat) : Int)) :
    (if (numS s).1 = 0 then (4 : Int) else (numS s).1, ([] : List UInt8)) = bytS s most ∧ (getB s.2 most).1 = [] := by
  obtain ⟨e0, l⟩ := s
  simp only at h
  unfold bytS numS getB
  simp only
  rcases hg : getN l with ⟨x, r, e⟩
  rw [hg] at h
  simp only at h ⊢
  rcases getN_err hg with rfl | ⟨rfl, rfl, he⟩
  · have hne : ¬ ((0 : Nat) ≠ 0) := by simp
    simp only [hne, if_false, h, if_true, upd_ok]
    exact ⟨rfl, trivial⟩
  · have he0 : e ≠ 0 := by omega
    rw [if_pos he0]
    refine ⟨?_, rfl⟩
    rw [upd_bad _ _ he0]
    by_cases h0 : e0 = 0
    · simp only [h0, if_true]
      rw [if_neg (by omega)]
    · simp only [h0, if_false]
theorem byt_take (s : Int × List UInt8) (most : Int) (h : ¬ (most < 0 ∨ most < (((getN s.2).1 : Nat) : Int))) :
    (if (numS s).2.length < (getN s.2).1 then [] else (numS s).2.take (getN s.2).1) = (getB s.2 most).1 ∧ upd (numS s) (if (numS s).2.length < (getN s.2).1 then ([], 3) else ((numS s).2.drop (getN s.2).1, 0)) = bytS s most := by
  obtain ⟨e0, l⟩ := s
  simp only at h
  unfold bytS numS getB
  simp only
  rcases hg : getN l with ⟨x, r, e⟩
  rw [hg] at h
  simp only at h ⊢
  rcases getN_err hg with rfl | ⟨rfl, rfl, he⟩
  · rw [if_neg (show ¬ (0 : Nat) ≠ 0 by simp), if_neg h, upd_ok]
    simp only
    by_cases hl : r.length < x
    · simp only [hl, if_true]; trivial
    · simp only [hl, if_false]; trivial
  · have he0 : e ≠ 0 := by omega
    rw [if_pos he0, upd_bad _ _ he0]
    simp [upd]
set_option maxRecDepth 100000 in
set_option maxHeartbeats 400000 in
theorem rbytes_any (g : Nat) (s : Int × List UInt8) (most : Int) (w : World) (h : RR w g s) (hm : most ≤ 9223372036854775807) :
    Calls Try.prog 32 #[.pointer (some ⟨g, 0, none⟩), .int .i64 most] w (BPost w g s most) := by
  have CN := Lib.hid (rnum_any g s w h)
  have hxl := getN_lt s.2
  have HL : Hid (most < 0 ∨ most < (((getN s.2).1 : Nat) : Int) → ∀ w1, RR w1 g (numS s) → RStep w w1 g → Calls Try.prog 46 #[.pointer (some ⟨g, 0, none⟩), .int .i64 4] w1 (RPost w1 g (bytS s most) (.tuple #[])) ∧ ∀ w2, RR w2 g (bytS s most) → RStep w1 w2 g → BPost w g s most (.returned (.slice none 0 0)) w2) := Lib.hid (fun hc w1 h1 h2 => by
    obtain ⟨e1, e2⟩ := byt_long s most hc
    refine ⟨by rw [← e1]; exact fail_any g (numS s) 4 w1 h1, fun w2 h3 h4 => ⟨_, rfl, by rw [e2]; exact World.ownsRow_nil _ _ _ _, h3, h2.trans h4⟩⟩)
  have HT : Hid (¬ (most < 0 ∨ most < (((getN s.2).1 : Nat) : Int)) → ∀ w1, RR w1 g (numS s) → RStep w w1 g → Calls Try.prog 47 #[.pointer (some ⟨g, 0, none⟩), .int .i64 (((getN s.2).1 : Nat) : Int)] w1 (TakePost w1 g (getN s.2).1 (numS s)) ∧
      ∀ e w2, TakePost w1 g (getN s.2).1 (numS s) e w2 → ∃ ad len cap, e = .returned (.slice ad len cap) ∧ Calls Try.prog 30 #[.slice ad len cap] w2 (fun e w3 => ∃ ad cap, e = .returned (.slice ad len cap) ∧ Hid (BPost w g s most (.returned (.slice ad len cap)) w3))) := Lib.hid (fun hc w1 h1 h2 => by
    obtain ⟨e1, e2⟩ := byt_take s most hc
    refine ⟨take_any g _ (numS s) w1 h1 (by omega), fun e w2 hh => ?_⟩
    obtain ⟨ad, cap, t, ht, rfl, hrd, hl, hc1, hc2, hrr, hst⟩ := hh
    have ht := ht.out
    rw [e1] at ht
    rw [e2] at hrr
    have hts : t.length ≤ 1000000 := by
      have h3 := h1.small
      have : t.length ≤ (numS s).2.length := by
        rw [ht, ← e1]; split
        · simp
        · rw [List.length_take]; omega
      omega
    refine ⟨ad, t.length, cap, rfl, (fresh_any ad t.length cap t w2 rfl (by omega) hrd hl.1).mono fun e w3 hq => ?_⟩
    obtain ⟨v, rfl, ho, hB⟩ := hq
    obtain ⟨ad3, cap3, rfl, _⟩ := Own.shape ho
    have hs2 := h2.trans hst
    refine ⟨ad3, cap3, rfl, Lib.hid ⟨_, rfl, ?_, hrr.kept hB, hs2.trans (RStep.of_below hB (by have := hrr.lt; omega))⟩⟩
    rw [← ht]
    exact Own.mono ho hs2.below.size)
  clear h
  generalize (getN s.2).1 = x at *
  by_cases h0 : most < 0
  · have HL := Lib.hid (HL.out (.inl h0))
    clear HT
    go_enter Try.func32, Try.ntmps32
    go_wp2_with fail
    refine (CN.out).mono ?_; intro en w1 hh; obtain ⟨rfl, H1, H2⟩ := hh.ret; clear hh
    obtain ⟨CF, HQ⟩ := HL.out w1 H1.out H2.out
    have CF := Lib.hid CF
    have HQ := Lib.hid HQ
    go_wp2_with fail
    refine (CF.out).mono ?_; intro en w2 hh; obtain ⟨rfl, H3, H4⟩ := hh.ret; clear hh
    have HP := Lib.hid (HQ.out w2 H3.out H4.out)
    go_wp2_with fail
    go_ret
    exact HP.out
  · have h0' : 0 ≤ most := by omega
    by_cases hx : most < (x : Int)
    · have HL := Lib.hid (HL.out (.inr hx))
      clear HT
      go_enter Try.func32, Try.ntmps32
      go_wp2_with fail
      refine (CN.out).mono ?_; intro en w1 hh; obtain ⟨rfl, H1, H2⟩ := hh.ret; clear hh
      obtain ⟨CF, HQ⟩ := HL.out w1 H1.out H2.out
      have CF := Lib.hid CF
      have HQ := Lib.hid HQ
      go_wp2_with fail
      refine (CF.out).mono ?_; intro en w2 hh; obtain ⟨rfl, H3, H4⟩ := hh.ret; clear hh
      have HP := Lib.hid (HQ.out w2 H3.out H4.out)
      go_wp2_with fail
      go_ret
      exact HP.out
    · have HT := Lib.hid (HT.out (by omega))
      have hx' : (x : Int) ≤ most := by omega
      have hx63 : (x : Int) ≤ 9223372036854775807 := by omega
      clear HL
      go_enter Try.func32, Try.ntmps32
      go_wp2_with fail
      refine (CN.out).mono ?_; intro en w1 hh; obtain ⟨rfl, H1, H2⟩ := hh.ret; clear hh
      obtain ⟨CT, HQ⟩ := HT.out w1 H1.out H2.out
      have CT := Lib.hid CT
      have HQ := Lib.hid HQ
      go_wp2_with fail
      refine (CT.out).mono ?_; intro en w2 hh; obtain ⟨ad, len, cap, rfl, CF⟩ := HQ.out _ _ hh; have CF := Lib.hid CF; clear hh
      go_wp2_with fail
      refine (CF.out).mono ?_; intro en w3 hh; obtain ⟨ad3, cap3, rfl, HP⟩ := hh
      go_wp2_with fail
      go_ret
      exact HP.out
theorem rbytes_nil (most : Int) (w : World) : Calls Try.prog 32 #[.pointer none, .int .i64 most] w fun e w' => e = .returned (.slice none 0 0) ∧ w = w' := by
  go_enter Try.func32, Try.ntmps32
  go_wp2_with fail
  go_ret
  exact ⟨rfl, rfl⟩
end Go.Proofs.Ytjifdbhgoakjpaa.Buf
