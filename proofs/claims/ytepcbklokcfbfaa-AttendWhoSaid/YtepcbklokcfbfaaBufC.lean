/- The writer: Fixed, Num, Int, Bytes, Done. -/
import Derived.Test.YtepcbklokcfbfaaBufB
namespace Go.Proofs.Ytepcbklokcfbfaa.Buf
open Go.ChangeShapes Go.WideShapes Go.ChangeAt Go.RowKit
open Go.Proofs.Ytepcbklokcfbfaa.Byt Go.Proofs.Ytepcbklokcfbfaa.Units Go.Proofs.Ytepcbklokcfbfaa.BufM
set_option linter.unusedVariables false

theorem wtell_any (g B m : Nat) (e0 e : Int) (l0 : List UInt8) (row : Option Nat) (w : World) (h : WR w B g m (e0, l0) row) :
    Calls Try.prog 52 #[.pointer (some ⟨g, 0, none⟩), .int .i64 e] w (WPost w B g m row (if e0 = 0 then e else e0, l0)) := by
  obtain ⟨v, hb, ho, hv⟩ := h.mem
  by_cases he : e0 = 0
  · subst he
    refine (tell_yes g _ _ e w hb rfl).mono fun en w' hh => ?_
    obtain ⟨rfl, rfl⟩ := hh
    rw [if_pos rfl]
    have hne := own_ne ho hb (by decide)
    have hge := h.ge
    refine ⟨rfl, row, ⟨h.ge, ⟨_, hb.put 0 _, own_kept ho (by simp) (fun k hk => ?_), hv⟩, h.room, h.max⟩, ⟨(Below.refl _ _).setCell hge _, fun k hk h1 h2 => ?_, .inl rfl⟩⟩
    · exact Below.heap_setCell _ _ _ _ (by rintro rfl; exact hne hk)
    · exact Below.heap_setCell _ _ _ _ h1
  · refine (tell_no g _ _ e e0 w hb rfl he).mono fun en w' hh => ?_
    obtain ⟨rfl, rfl⟩ := hh
    rw [if_neg he]
    exact ⟨rfl, row, h, WStep.refl _ _ _ _⟩
/-- A call of the writer behind what made memory alone. -/
theorem WPost.ahead {a b : World} {B g m : Nat} {row : Option Nat} {s : Int × List UInt8} {e : Ending} {c : World} (hB : Below a.heap.size a b) (hle : B ≤ a.heap.size) (h : WPost b B g m row s e c) : WPost a B g m row s e c := by
  obtain ⟨he, row', h1, h2⟩ := h
  exact ⟨he, row', h1, h2.ahead hB hle⟩
theorem WPost.ret {a : World} {B g m : Nat} {row : Option Nat} {s : Int × List UInt8} {e : Ending} {c : World} (h : WPost a B g m row s e c) : e = .returned (.tuple #[]) ∧ Hid (WPost a B g m row s (.returned (.tuple #[])) c) :=
  ⟨h.1, Lib.hid ⟨rfl, h.2⟩⟩
/-- The head of a block of bytes reads as a list. -/
theorem rd_head {w : World} {G : Nat} {t : TypeId} {cs : Array Value} {l : List UInt8} (h : Blk w G t cs) (hc : ∀ i, i < l.length → cs[i]? = some (bv (l.getD i 0))) : RdB w (some ⟨G, 0, none⟩) l :=
  .inr ⟨G, 0, rfl, fun i hi => by rw [Nat.zero_add, h.cell]; exact hc i hi⟩
/-- Seven bits with 128 more, as the walk reckons it. -/
theorem or_128 (y : Nat) (h : y < 256) : Go.bits .or .u8 (y : Int) 128 = ((y % 128 + 128 : Nat) : Int) := by
  have : ∀ z : Fin 256, Go.bits .or .u8 ((z.val : Nat) : Int) 128 = ((z.val % 128 + 128 : Nat) : Int) := by decide +kernel
  exact this ⟨y, h⟩
abbrev ten : Array Value := #[.int .u8 0, .int .u8 0, .int .u8 0, .int .u8 0, .int .u8 0, .int .u8 0, .int .u8 0, .int .u8 0, .int .u8 0, .int .u8 0]
/-- Ten bytes of which the first ones are laid. -/
def Ten (D : Array Value) (l : List UInt8) : Prop := D.size = 10 ∧ ∀ i, i < l.length → D[i]? = some (bv (l.getD i 0))
theorem Ten.put {D : Array Value} {l : List UInt8} (h : Ten D l) (hl : l.length < 10) (b : UInt8) : Ten (D.setIfInBounds l.length (bv b)) (l ++ [b]) := by
  refine ⟨by simpa using h.1, fun j hj => ?_⟩
  by_cases he : l.length = j
  · subst he
    rw [Array.getElem?_setIfInBounds_self_of_lt (by rw [h.1]; exact hl)]
    simp
  · have hj' : j < l.length := by simp at hj; omega
    rw [Array.getElem?_setIfInBounds_ne he, h.2 j hj']
    simp only [List.getD, List.getElem?_append_left hj']
/-- In sevens as far as it is written, and what is left. -/
theorem sev_go {x y : Nat} {p : List UInt8} (h : sev x = p ++ sev y) (hy : 128 ≤ y) : sev x = (p ++ [UInt8.ofNat (y % 128 + 128)]) ++ sev (y / 128) := by
  rw [h, sev_big hy]; simp
theorem sev_end {x y : Nat} {p : List UInt8} (h : sev x = p ++ sev y) (hy : y < 128) : sev x = p ++ [UInt8.ofNat y] := by
  rw [h, sev_small hy]
theorem bv_ofNat {x : Nat} (h : x < 256) : bv (UInt8.ofNat x) = .int .u8 (x : Int) := bv_of h
set_option maxRecDepth 100000 in
set_option maxHeartbeats 400000 in
theorem num_any (g B m : Nat) (s : Int × List UInt8) (row : Option Nat) (x : Nat) (w : World) (h : WR w B g m s row) (hx : x < 18446744073709551616) (hm : s.2.length ≤ 900000) :
    Calls Try.prog 30 #[.pointer (some ⟨g, 0, none⟩), .int .u64 (x : Int)] w (WPost w B g m row (wNum m s x)) := by
  have hle := h.le
  have CB : Hid (∀ W n D, Below w.heap.size w W → Blk W w.heap.size 78 D → n = (sev x).length → Ten D (sev x) → Calls Try.prog 46 #[.pointer (some ⟨g, 0, none⟩), .slice (some ⟨w.heap.size, 0, none⟩) n 10] W (WPost w B g m row (wNum m s x))) := Lib.hid (fun W n D hB hb hn hd => by
    have h10 := sev_ten hx
    exact (byte_any g B m s row (some ⟨w.heap.size, 0, none⟩) n 10 (sev x) W (h.kept hB) hn.symm (by omega) (rd_head hb hd.2) (fun h => by cases h)).mono fun e w' hh => WPost.ahead hB hle hh)
  have hs10 := sev_ten hx
  have K0 : Hid (Blk (w.alloc (.cells ten 78)) w.heap.size 78 ten) := Lib.hid (Blk.new _ _ _)
  clear h
  go_enter Try.func30, Try.ntmps30
  go_wp2_with fail
  go_loopw [1, 5] (fun xv nv wr => ∃ (y : Nat) (p : List UInt8) (D : Array Value), y < 18446744073709551616 ∧ xv = .int .u64 (y : Int) ∧ nv = .int .i64 (p.length : Int) ∧ Hid (sev x = p ++ sev y) ∧ Hid (Ten D p) ∧ Hid (Blk wr w.heap.size 78 D) ∧ Below w.heap.size w wr) (fun xv _ _ => (intOf xv).toNat)
  case atStart => exact ⟨x, [], ten, hx, rfl, rfl, Lib.hid rfl, Lib.hid ⟨rfl, fun i hi => by simp at hi⟩, K0, (Below.refl _ _).alloc (Nat.le_refl _) _⟩
  case round =>
    obtain ⟨y, p, D, hy, rfl, rfl, hS, hD, hb, hB⟩ := hrel
    have hlen := congrArg List.length hS.out
    rw [List.length_append] at hlen
    by_cases hlt : 128 ≤ y
    · have hsv := congrArg List.length (sev_big hlt)
      have hp1 := sev_pos (y / 128)
      rw [List.length_cons] at hsv
      have hp9 : p.length < 9 := by omega
      have hcell := hb.out.cell p.length
      have hfr := hb.out.free p.length
      obtain ⟨old, hold⟩ : ∃ old, D[p.length]? = some old := ⟨D[p.length]'(by rw [hD.out.1]; omega), by rw [Array.getElem?_eq_getElem]⟩
      rw [hold] at hcell
      have e1 := or_128 (y % 256) (by omega)
      rw [show y % 256 % 128 = y % 128 from by omega, show ((y % 256 : Nat) : Int) = (y : Int) % 256 from by omega] at e1
      have HS := Lib.hid (sev_go hS.out hlt)
      have HD := Lib.hid (hD.out.put (by omega) (UInt8.ofNat (y % 128 + 128)))
      have hbv := bv_ofNat (x := y % 128 + 128) (by omega)
      rw [hbv, ← e1] at HD
      have HB := Lib.hid (hb.out.put p.length (.int .u8 (Go.bits .or .u8 ((y : Int) % 256) 128)))
      clear hsv hp1 hold hlen hbv hD hS e1
      go_wp2_with fail
      go_roundw
      case rel => exact ⟨y / 128, _, _, by omega, by go_num, by rw [List.length_append]; go_num, HS, HD, HB, hB.setCell (p := ⟨w.heap.size, p.length, none⟩) (Nat.le_refl _) _⟩
      case measure => simp [intOf]; omega
    · have hlt' : y < 128 := by omega
      have hsv := congrArg List.length (sev_small hlt')
      rw [List.length_singleton] at hsv
      have hp9 : p.length ≤ 9 := by omega
      have hcell := hb.out.cell p.length
      have hfr := hb.out.free p.length
      obtain ⟨old, hold⟩ : ∃ old, D[p.length]? = some old := ⟨D[p.length]'(by rw [hD.out.1]; omega), by rw [Array.getElem?_eq_getElem]⟩
      rw [hold] at hcell
      have HS := sev_end hS.out hlt'
      have HD := hD.out.put (by omega) (UInt8.ofNat y)
      rw [← HS, bv_ofNat (x := y) (by omega)] at HD
      have HB := hb.out.put p.length (.int .u8 (y : Int))
      have hn : p.length + 1 = (sev x).length := by rw [HS, List.length_append, List.length_singleton]
      have CC := Lib.hid (CB.out _ _ _ (hB.setCell (p := ⟨w.heap.size, p.length, none⟩) (Nat.le_refl _) _) HB hn HD)
      have hp10 : (p.length : Int) + 1 ≤ 10 ∧ (0 : Int) ≤ (p.length : Int) + 1 := by omega
      obtain ⟨hp10, hp0⟩ := hp10
      clear hsv hold hlen hD hS HS HD HB hn CB
      go_wp2_with fail
      refine (CC.out).mono ?_; intro e w' hh; obtain ⟨rfl, HP⟩ := hh.ret; clear hh
      go_wp2_with fail
      go_returns
      exact HP.out
set_option maxRecDepth 100000 in
set_option maxHeartbeats 400000 in
theorem num_nil (x : Nat) (w : World) (hx : x < 18446744073709551616) : Calls Try.prog 30 #[.pointer none, .int .u64 (x : Int)] w fun e w' => e = .returned (.tuple #[]) ∧ Below w.heap.size w w' := by
  have hs10 := sev_ten hx
  have K0 : Hid (Blk (w.alloc (.cells ten 78)) w.heap.size 78 ten) := Lib.hid (Blk.new _ _ _)
  go_enter Try.func30, Try.ntmps30
  go_wp2_with fail
  go_loopw [1, 5] (fun xv nv wr => ∃ (y : Nat) (p : List UInt8) (D : Array Value), y < 18446744073709551616 ∧ xv = .int .u64 (y : Int) ∧ nv = .int .i64 (p.length : Int) ∧ Hid (sev x = p ++ sev y) ∧ Hid (Ten D p) ∧ Hid (Blk wr w.heap.size 78 D) ∧ Below w.heap.size w wr) (fun xv _ _ => (intOf xv).toNat)
  case atStart => exact ⟨x, [], ten, hx, rfl, rfl, Lib.hid rfl, Lib.hid ⟨rfl, fun i hi => by simp at hi⟩, K0, (Below.refl _ _).alloc (Nat.le_refl _) _⟩
  case round =>
    obtain ⟨y, p, D, hy, rfl, rfl, hS, hD, hb, hB⟩ := hrel
    have hlen := congrArg List.length hS.out
    rw [List.length_append] at hlen
    by_cases hlt : 128 ≤ y
    · have hsv := congrArg List.length (sev_big hlt)
      have hp1 := sev_pos (y / 128)
      rw [List.length_cons] at hsv
      have hp9 : p.length < 9 := by omega
      have hcell := hb.out.cell p.length
      have hfr := hb.out.free p.length
      obtain ⟨old, hold⟩ : ∃ old, D[p.length]? = some old := ⟨D[p.length]'(by rw [hD.out.1]; omega), by rw [Array.getElem?_eq_getElem]⟩
      rw [hold] at hcell
      have e1 := or_128 (y % 256) (by omega)
      rw [show y % 256 % 128 = y % 128 from by omega, show ((y % 256 : Nat) : Int) = (y : Int) % 256 from by omega] at e1
      have HS := Lib.hid (sev_go hS.out hlt)
      have HD := Lib.hid (hD.out.put (by omega) (UInt8.ofNat (y % 128 + 128)))
      have hbv := bv_ofNat (x := y % 128 + 128) (by omega)
      rw [hbv, ← e1] at HD
      have HB := Lib.hid (hb.out.put p.length (.int .u8 (Go.bits .or .u8 ((y : Int) % 256) 128)))
      clear hsv hp1 hold hlen hbv hD hS e1
      go_wp2_with fail
      go_roundw
      case rel => exact ⟨y / 128, _, _, by omega, by go_num, by rw [List.length_append]; go_num, HS, HD, HB, hB.setCell (p := ⟨w.heap.size, p.length, none⟩) (Nat.le_refl _) _⟩
      case measure => simp [intOf]; omega
    · have hlt' : y < 128 := by omega
      have hsv := congrArg List.length (sev_small hlt')
      rw [List.length_singleton] at hsv
      have hp9 : p.length ≤ 9 := by omega
      have hcell := hb.out.cell p.length
      have hfr := hb.out.free p.length
      obtain ⟨old, hold⟩ : ∃ old, D[p.length]? = some old := ⟨D[p.length]'(by rw [hD.out.1]; omega), by rw [Array.getElem?_eq_getElem]⟩
      rw [hold] at hcell
      have hp10 : (p.length : Int) + 1 ≤ 10 ∧ (0 : Int) ≤ (p.length : Int) + 1 := by omega
      obtain ⟨hp10, hp0⟩ := hp10
      have HB := Lib.hid (hB.setCell (p := ⟨w.heap.size, p.length, none⟩) (Nat.le_refl _) (.int .u8 (y : Int)))
      have CC : Hid (∀ v W, Calls Try.prog 46 #[.pointer none, v] W fun e w' => e = .returned (.tuple #[]) ∧ W = w') := Lib.hid (fun v W => byte_nil v W)
      clear hsv hold hlen hD hS
      go_wp2_with fail
      refine (CC.out _ _).mono ?_; rintro e w' ⟨rfl, rfl⟩
      go_wp2_with fail
      go_returns
      exact ⟨rfl, HB.out⟩
theorem done_nil (w : World) : Calls Try.prog 16 #[.pointer none] w fun e w' => e = .returned (.tuple #[.slice none 0 0, .int .i64 1]) ∧ w = w' := by
  go_enter Try.func16, Try.ntmps16
  go_wp2_with fail
  go_returns
  exact ⟨rfl, rfl⟩
/-- What Done leaves. -/
def DonePost (s : Int × List UInt8) (w : World) (e : Ending) (w' : World) : Prop :=
  ∃ v, e = .returned (.tuple #[v, .int .i64 s.1]) ∧ OwnB w' w.heap.size v (if s.1 = 0 then s.2 else []) ∧ Below w.heap.size w w'
theorem done_any (g B m : Nat) (s : Int × List UInt8) (row : Option Nat) (w : World) (h : WR w B g m s row) (hm : s.2.length ≤ 1000000) :
    Calls Try.prog 16 #[.pointer (some ⟨g, 0, none⟩)] w (DonePost s w) := by
  obtain ⟨e, l⟩ := s
  obtain ⟨v, hb, ho, hv⟩ := h.mem
  have c0 := hb.cell 0
  have c2 := hb.cell 2
  simp at c0 c2
  by_cases he : e = 0
  · subst he
    obtain ⟨rd, rcap, rfl, hshape⟩ := Own.shape ho
    have p := ho.pos
    simp only at p c2 hm
    have CF := Lib.hid (fresh_any rd l.length rcap l w rfl (by omega) ho.rd.1 p.2.2.1)
    clear h hb ho hv hshape p
    go_enter Try.func16, Try.ntmps16
    go_wp2_with fail
    refine (CF.out).mono ?_; intro e w1 hh; obtain ⟨v, rfl, ho, hB⟩ := hh
    have HO := Lib.hid ho
    have HB := Lib.hid hB
    obtain ⟨rd2, rcap2, rfl, hshape⟩ := Own.shape ho
    clear ho hB hshape
    go_wp2_with fail
    go_returns
    exact ⟨_, rfl, HO.out, HB.out⟩
  · have hne : (e != 0) = true := by simpa using he
    have HP : Hid (∀ n, DonePost (e, l) w (.returned (.tuple #[.slice none 0 0, .int .i64 e])) (w.drewN n)) := Lib.hid (fun n => ⟨_, rfl, by rw [if_neg he]; exact World.ownsRow_nil _ _ _ _, Own.below_drewN (Below.refl _ _) n⟩)
    clear h hb ho hv he
    go_enter Try.func16, Try.ntmps16
    go_wp2_with fail
    go_quiet (fail)
    go_wp2_with fail
    go_returns
    exact HP.out _
end Go.Proofs.Ytepcbklokcfbfaa.Buf
