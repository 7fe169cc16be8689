/- Items written, beside what the document has of them. -/
import Derived.Test.YtglnclcoinpakaaBufQ
namespace Go.Proofs.Ytglnclcoinpakaa.Buf
open Go.ChangeShapes Go.WideShapes Go.ChangeAt Go.RowKit
open Go.Proofs.Ytglnclcoinpakaa.Byt Go.Proofs.Ytglnclcoinpakaa.Units Go.Proofs.Ytglnclcoinpakaa.BufM
set_option linter.unusedVariables false

theorem put_len (m : Nat) (s : Int × List UInt8) (t : It) (hx : t.x < 18446744073709551616) : (t.put m s).2.length ≤ s.2.length + 210 ∨ m < s.2.length := by
  obtain ⟨e, l⟩ := s
  have htl := text_len t hx
  by_cases hm : l.length ≤ m
  · left
    obtain ⟨p1, p2, p3, p4⟩ := put_text m e l t hx
    by_cases he : e = 0
    · rcases text_err t with ht | ⟨ht, _⟩
      · by_cases hf : m - l.length < t.text.1.length
        · have := (p4 he ht hf).2; simp only; omega
        · rw [p3 he ht hf hm]; simp only [List.length_append]; omega
      · rw [p2 he ht]; simp
    · rw [p1 he]; simp
  · exact .inr (by simp only; omega)
/-- The writer beside what the document has: what is wrong, what is wanted. -/
structure Wst (most : Int) (m r j e : Nat) (wl : List UInt8) (s : Int × List UInt8) : Prop where
  len : s.2.length ≤ 210 * j
  fit : s.2.length ≤ m
  room : wl.length ≤ r
  ok : e = 0 → s = (0, wl)
  bad : e ≠ 0 → s.1 = (e : Int) ∨ (4000 < most ∧ e = 4)
theorem Wst.base {most : Int} {m r j e : Nat} {wl : List UInt8} {s : Int × List UInt8} (h : Wst most m r j e wl s) (t : It) (hx : t.x < 18446744073709551616) : (t.put m s).2.length ≤ 210 * (j + 1) := by
  have h1 := h.len; have h2 := h.fit
  rcases put_len m s t hx with h3 | h3 <;> omega
theorem Wst.wrong {most : Int} {m r j : Nat} {wl : List UInt8} {s : Int × List UInt8} (h : Wst most m r j 0 wl s) (t : It) (hx : t.x < 18446744073709551616) (ht : t.text.2 = 1) (hf : (t.put m s).2.length ≤ m) : Wst most m r (j + 1) 1 wl (t.put m s) := by
  have hb := h.base t hx
  have hs := h.ok rfl
  subst hs
  refine ⟨hb, hf, h.room, (fun h => by cases h), fun _ => .inl ?_⟩
  rw [(put_text m 0 wl t hx).2.1 rfl ht]; rfl
theorem Wst.long {most : Int} {m r j : Nat} {wl : List UInt8} {s : Int × List UInt8} (h : Wst most m r j 0 wl s) (t : It) (hx : t.x < 18446744073709551616) (hr : most ≤ 4000 → r = m) (ht : t.text.2 = 0) (hl : r - wl.length < t.text.1.length) (hf : (t.put m s).2.length ≤ m) : Wst most m r (j + 1) 4 wl (t.put m s) := by
  have hb := h.base t hx
  have hs := h.ok rfl
  subst hs
  refine ⟨hb, hf, h.room, (fun h => by cases h), fun _ => ?_⟩
  by_cases hm : most ≤ 4000
  · left
    rw [((put_text m 0 wl t hx).2.2.2 rfl ht (by rw [← hr hm]; exact hl)).1]; rfl
  · exact .inr ⟨by omega, rfl⟩
theorem Wst.fits {most : Int} {m r j : Nat} {wl : List UInt8} {s : Int × List UInt8} (h : Wst most m r j 0 wl s) (t : It) (hx : t.x < 18446744073709551616) (hrm : r ≤ m) (ht : t.text.2 = 0) (hl : ¬ r - wl.length < t.text.1.length) (hf : (t.put m s).2.length ≤ m) : Wst most m r (j + 1) 0 (wl ++ t.text.1) (t.put m s) := by
  have hb := h.base t hx
  have hs := h.ok rfl
  have hro := h.room
  have hfi := h.fit
  subst hs
  refine ⟨hb, hf, by rw [List.length_append]; omega, fun _ => ?_, fun h => absurd rfl h⟩
  exact (put_text m 0 wl t hx).2.2.1 rfl ht (by omega) hfi
theorem Wst.stays {most : Int} {m r j e : Nat} {wl : List UInt8} {s : Int × List UInt8} (h : Wst most m r j e wl s) (t : It) (hx : t.x < 18446744073709551616) (he : e ≠ 0) (hf : (t.put m s).2.length ≤ m) : Wst most m r (j + 1) e wl (t.put m s) := by
  have hb := h.base t hx
  refine ⟨hb, hf, h.room, fun h => absurd h he, fun _ => ?_⟩
  rcases h.bad he with h1 | h1
  · left
    obtain ⟨e0, l⟩ := s
    simp only at h1
    rw [(put_text m e0 l t hx).1 (by omega)]
    exact h1
  · exact .inr h1

/-- The writer and what is wanted, in memory. -/
structure Wm (w0 w : World) (gw m : Nat) (s : Int × List UInt8) (wl : List UInt8) (ad : Option Addr) (len cap : Nat) : Prop where
  wr : ∃ row, WR w gw gw m s row ∧ ∀ k, (Value.slice ad len cap).ownBlock = some k → some k ≠ row
  len_ : wl.length = len
  want : OwnB w (gw + 1) (.slice ad len cap) wl
  below : Below gw w0 w
theorem Wm.kept {w0 w w' : World} {gw m len cap : Nat} {s : Int × List UInt8} {wl : List UInt8} {ad : Option Addr} (h : Wm w0 w gw m s wl ad len cap) (hB : Below w.heap.size w w') : Wm w0 w' gw m s wl ad len cap := by
  obtain ⟨row, hw, hs⟩ := h.wr
  have := hw.le
  exact ⟨⟨row, hw.kept hB, hs⟩, h.len_, h.want.below hB, h.below.trans (hB.mono this)⟩
theorem Wm.put {w0 w : World} {gw m len cap : Nat} {s : Int × List UInt8} {wl : List UInt8} {ad : Option Addr} (h : Wm w0 w gw m s wl ad len cap) (t : It) (ht : t.ok w gw) (hm : s.2.length ≤ 800000) :
    Calls Try.prog 9 #[.pointer (some ⟨gw, 0, none⟩), t.v] w (fun en w' => en = .returned (.tuple #[]) ∧ Hid (Wm w0 w' gw m (t.put m s) wl ad len cap) ∧ Hid ((t.put m s).2.length ≤ m) ∧ Hid (∀ b, b < gw → w'.heap[b]? = w.heap[b]?)) := by
  obtain ⟨row, hw, hs⟩ := h.wr
  refine (put_any gw gw m gw s row t w hw ht (Nat.le_refl _) hm).mono fun en w' hh => ?_
  obtain ⟨he, row', h1, h2⟩ := hh
  refine ⟨he, Lib.hid ⟨⟨row', h1, fun k hk => ?_⟩, h.len_, own_kept h.want h2.below.size (fun k hk => ?_), h.below.trans h2.below⟩, Lib.hid h1.room, Lib.hid fun b hb => h2.below.block b hb⟩
  · have hkl := own_at h.want hk
    rcases h2.new with e | e
    · rw [e]; exact hs k hk
    · intro hr; have := e k hr.symm; omega
  · have hkl := own_at h.want hk
    exact h2.block k hkl.2 (by omega) (hs k hk)
theorem Wm.text {w0 w : World} {gw m len cap : Nat} {s : Int × List UInt8} {wl : List UInt8} {ad : Option Addr} (h : Wm w0 w gw m s wl ad len cap) (t : It) (ht : t.ok w gw) :
    Calls Try.prog 10 #[t.v] w (fun en w' => ∃ ad2 len2 cap2, en = .returned (.tuple #[.slice ad2 len2 cap2, .int .i64 ((t.text.2 : Nat) : Int)]) ∧ t.text.1.length = len2 ∧ Hid (Wm w0 w' gw m s wl ad len cap) ∧ Hid (RdB w' ad2 t.text.1) ∧ Hid (ad2 = none → cap2 = 0) ∧ Hid (∀ b, b < gw → w'.heap[b]? = w.heap[b]?)) := by
  obtain ⟨row, hw, hs⟩ := h.wr
  have hle := hw.le
  refine (text_any gw t w ht).mono fun en w' hh => ?_
  obtain ⟨ad2, cap2, rfl, ho, hB⟩ := hh
  exact ⟨ad2, _, cap2, rfl, rfl, Lib.hid (h.kept hB), Lib.hid ho.rd.1, Lib.hid ho.pos.2.2.1, Lib.hid fun b hb => hB.block b (by omega)⟩
theorem Wm.append {w0 w w' : World} {gw m len cap n2 : Nat} {s : Int × List UInt8} {wl tx : List UInt8} {ad : Option Addr} {v1 : Value} (h : Wm w0 w gw m s wl ad len cap) (hn : tx.length = n2)
    (h1 : w'.ownsRow (gw + 1) 5 1 v1 (len + n2) (bvs wl ++ bvs tx)) (h2 : w.grownBy w' (Value.slice ad len cap).ownBlock) (h3 : v1.ownBlock = (Value.slice ad len cap).ownBlock ∨ ∀ k, v1.ownBlock = some k → w.heap.size ≤ k) :
    ∃ ad3 cap3, v1 = .slice ad3 (len + n2) cap3 ∧ Hid (Wm w0 w' gw m s (wl ++ tx) ad3 (len + n2) cap3) := by
  obtain ⟨row, hw, hs⟩ := h.wr
  have hl : (wl ++ tx).length = len + n2 := by rw [List.length_append, h.len_, hn]
  have ho : OwnB w' (gw + 1) v1 (wl ++ tx) := by unfold OwnB; rw [hl, bvs_append]; exact h1
  obtain ⟨ad3, cap3, e, _⟩ := Own.shape h1
  subst e
  have hge := hw.ge
  obtain ⟨v, hb, hov, hv⟩ := hw.mem
  refine ⟨ad3, cap3, rfl, Lib.hid ⟨⟨row, hw.other h2.size (fun k hk => ?_), fun k hk => ?_⟩, hl, ho, h.below.trans ((Below.refl _ _).grown h2 hw.le (fun k hk => by have := own_at h.want hk; omega))⟩⟩
  · rcases hk with rfl | hk
    · refine h2.block _ hb.lt (fun e => ?_)
      have := (own_at h.want e.symm).1; omega
    · have hkl := own_at hov (hv.trans hk.symm)
      refine h2.block k hkl.2 (fun e => ?_)
      exact hs k e.symm hk
  · rcases h3 with e | e
    · rw [e] at hk; exact hs k hk
    · intro hr
      have hkl := own_at hov (hv.trans hr.symm)
      have := e k hk
      omega
theorem Wm.done {w0 w : World} {gw m len cap : Nat} {s : Int × List UInt8} {wl : List UInt8} {ad : Option Addr} (h : Wm w0 w gw m s wl ad len cap) (hm : s.2.length ≤ 1000000) :
    Calls Try.prog 11 #[.pointer (some ⟨gw, 0, none⟩)] w (fun en w' => ∃ ad2 len2 cap2, en = .returned (.tuple #[.slice ad2 len2 cap2, .int .i64 s.1]) ∧ (convert 25 9 (.slice ad2 len2 cap2)).run Try.prog w' = .ok (.string (strB (if s.1 = 0 then s.2 else []))) w' ∧
      (convert 25 9 (.slice ad len cap)).run Try.prog w' = .ok (.string (strB wl)) w' ∧ Hid (Below gw w0 w')) := by
  obtain ⟨row, hw, hs⟩ := h.wr
  have hle := hw.le
  refine (done_any gw gw m s row w hw hm).mono fun en w' hh => ?_
  obtain ⟨v, rfl, ho, hB⟩ := hh
  obtain ⟨ad2, cap2, rfl, _⟩ := Own.shape ho
  have hw2 := (h.want.below hB).rd
  exact ⟨ad2, _, cap2, rfl, ho.str (Below.refl _ _), run_str_any hw2.1 hw2.2, Lib.hid (h.below.trans (hB.mono hle))⟩
end Go.Proofs.Ytglnclcoinpakaa.Buf
