/- Contracts of package agenda (layer 8) at int64: rise, sink. -/
import Derived.Test.YtliblcjfccijjaaAgdC
namespace Go.Proofs.Ytliblcjfccijjaa.AgdL
open Go.ChangeShapes Go.WideShapes Go.ChangeAt Go.RowKit
open Go.Proofs.Ytliblcjfccijjaa.Rw Go.Proofs.Ytliblcjfccijjaa.Agd
set_option linter.unusedVariables false
set_option linter.unusedSimpArgs false
def HeapPost (g b : Nat) (most : Int) (add cap : Nat) (l : List Th) (w w' : World) : Prop := ∃ l', RowL w' g b most add cap l' ∧ Heap l' ∧ l'.Perm l ∧ Stay (fun k => k = b) w w'
set_option maxHeartbeats 4000000 in
theorem rise_any (g b : Nat) (most : Int) (add cap : Nat) (l : List Th) (w : World) (h : RowL w g b most add cap l) (hN : l.length ≤ 1000000) (p : Nat) (hp : p < l.length) (hR : Rises l p) :
    Calls Try.prog 58 #[.pointer (some ⟨g, 0, none⟩), .int .i64 p] w fun e w' => e = .returned (.tuple #[]) ∧ HeapPost g b most add cap l w w' := by
  have H0 : Hid (RowL w g b most add cap l ∧ Rises l p) := Lib.hid ⟨h, hR⟩
  clear h hR
  go_enter Try.func58, Try.ntmps58
  go_wp2_with fail
  go_loopw [1] (fun i wr => ∃ (k : Nat) (l2 : List Th), i = .int .i64 k ∧ k < l.length ∧ Hid (RowL wr g b most add cap l2 ∧ Rises l2 k ∧ l2.Perm l ∧ Stay (fun k => k = b) w wr)) (fun i _ => (intOf i).toNat)
  case atStart => exact ⟨p, l, rfl, hp, Lib.hid ⟨H0.out.1, H0.out.2, .refl _, Stay.refl _ _⟩⟩
  case round =>
    obtain ⟨k, l2, rfl, hk, hI⟩ := hrel
    have hl := hI.out.2.2.1.length_eq
    have hcap := hI.out.1.len
    unfold maxLen at hcap
    cases k with
    | zero =>
      have HE : Hid (HeapPost g b most add cap l w wr) := Lib.hid ⟨l2, hI.out.1, hI.out.2.1.stop0, hI.out.2.2.1, hI.out.2.2.2⟩
      go_wp2_with fail
      go_returns
      exact ⟨rfl, HE.out⟩
    | succ j =>
      have HC : Hid (∀ W, Below wr.heap.size wr W → W.cell? ⟨g, 2, none⟩ = some (.slice (some ⟨b, 0, none⟩) l2.length cap)) := Lib.hid (fun W hW => (hI.out.1.below hW).cells.2.2)
      have CA : Hid (∀ W, Below wr.heap.size wr W → Calls Try.prog 72 #[.pointer (some ⟨b, (j + 1) * 3, none⟩), .pointer (some ⟨b, (j / 2) * 3, none⟩)] W fun e w' => e = .returned (.bool (bef (gt l2 (j + 1)) (gt l2 (j / 2)))) ∧ Below wr.heap.size wr w') := Lib.hid (fun W hW => (ahead_any g b most add cap l2 W (hI.out.1.below hW) (j + 1) (j / 2) (by omega) (by omega)).mono fun e w' hh => ⟨hh.1, hW.trans (hh.2.mono hW.size)⟩)
      have CS : Hid (∀ W, Below wr.heap.size wr W → Calls Try.prog 73 #[.pointer (some ⟨g, 0, none⟩), .int .i64 ((j + 1 : Nat) : Int), .int .i64 ((j / 2 : Nat) : Int)] W fun e w' => e = .returned (.tuple #[]) ∧ RowL w' g b most add cap (swp l2 (j + 1) (j / 2)) ∧ Stay (fun k => k = b) W w') := Lib.hid (fun W hW => swap_any g b most add cap l2 W (hI.out.1.below hW) (j + 1) (j / 2) (by omega) (by omega))
      have c2 := HC.out wr (Below.refl _ _)
      have hln : l2.length ≤ 1000000 := by omega
      have hkl : j + 1 < l2.length := by omega
      cases hb : bef (gt l2 (j + 1)) (gt l2 (j / 2)) with
      | false =>
        rw [hb] at CA
        have HE : Hid (∀ W, Below wr.heap.size wr W → HeapPost g b most add cap l w W) := Lib.hid (fun W hW => ⟨l2, hI.out.1.below hW, hI.out.2.1.stop (by simpa using hb), hI.out.2.2.1, hI.out.2.2.2.snoc (Stay.of_below hW) (fun k _ e => e)⟩)
        clear CS hb
        go_wp2_with fail
        refine wp_region_noPanic ?_
        go_region_held_law (fun W => Below wr.heap.size wr W ∧ W.cell? ⟨g, 2, none⟩ = some (.slice (some ⟨b, 0, none⟩) l2.length cap)) ((refine ⟨?_, HC.out _ ?_⟩ <;> (repeat' (first | assumption | exact Below.refl _ _ | exact (‹Below wr.heap.size wr _ ∧ _›).1 | refine Below.drew ?_))))
          ((go_at_call 72; refine (CA.out _ ?_).mono ?_; (focus (first | assumption | exact (‹Below wr.heap.size wr _ ∧ _›).1 | exact (Below.refl _ _).drew)); rintro e w7 ⟨rfl, hB7⟩))
        all_goals
          rename_i hHeld
          obtain ⟨hG8, -⟩ := hHeld
          have HG8 := Lib.hid (HE.out _ hG8)
          clear hG8 c2
          refine NoPanic.normal ?_
          go_wp2_with fail
          go_returns
          exact ⟨rfl, HG8.out⟩
      | true =>
        rw [hb] at CA
        have HE : Hid (∀ W W', Below wr.heap.size wr W → RowL W' g b most add cap (swp l2 (j + 1) (j / 2)) → Stay (fun k => k = b) W W' → RowL W' g b most add cap (swp l2 (j + 1) (j / 2)) ∧ Rises (swp l2 (j + 1) (j / 2)) (j / 2) ∧ (swp l2 (j + 1) (j / 2)).Perm l ∧ Stay (fun k => k = b) w W') := Lib.hid (fun W W' hW hr hs => by
          have hu := hI.out.2.1.up (Nat.succ_pos j) hkl hb
          rw [Nat.add_sub_cancel] at hu
          exact ⟨hr, hu, (swp_perm l2 hkl (by omega)).trans hI.out.2.2.1, (hI.out.2.2.2.snoc (Stay.of_below hW) (fun k _ e => e)).snoc hs (fun k _ e => e)⟩)
        clear hb
        generalize swp l2 (j + 1) (j / 2) = l3 at *
        go_wp2_with fail
        refine wp_region_noPanic ?_
        go_region_held_law (fun W => Below wr.heap.size wr W ∧ W.cell? ⟨g, 2, none⟩ = some (.slice (some ⟨b, 0, none⟩) l2.length cap)) ((refine ⟨?_, HC.out _ ?_⟩ <;> (repeat' (first | assumption | exact Below.refl _ _ | exact (‹Below wr.heap.size wr _ ∧ _›).1 | refine Below.drew ?_))))
          ((go_at_call 72; refine (CA.out _ ?_).mono ?_; (focus (first | assumption | exact (‹Below wr.heap.size wr _ ∧ _›).1 | exact (Below.refl _ _).drew)); rintro e w7 ⟨rfl, hB7⟩))
        all_goals
          rename_i hHeld
          obtain ⟨hG8, -⟩ := hHeld
          have HG8 := Lib.hid hG8
          have CS7 := Lib.hid (CS.out _ hG8)
          clear hG8 c2
          refine NoPanic.normal ?_
          go_wp2_with fail
          refine (CS7.out).mono ?_; rintro e w8 ⟨rfl, hr8, hs8⟩
          have H8 := Lib.hid (HE.out _ _ HG8.out hr8 hs8)
          clear hr8 hs8
          go_wp2_with fail
          go_roundw
          case rel => exact ⟨j / 2, l3, by go_num, by omega, H8⟩
          case measure => simp [intOf]; omega
set_option maxHeartbeats 4000000 in
theorem sink_any (g b : Nat) (most : Int) (add cap : Nat) (l : List Th) (w : World) (h : RowL w g b most add cap l) (hN : l.length ≤ 1000000) (p : Nat) (hp : p ≤ 1000000) (hR : Sinks l p) :
    Calls Try.prog 74 #[.pointer (some ⟨g, 0, none⟩), .int .i64 p] w fun e w' => e = .returned (.tuple #[]) ∧ HeapPost g b most add cap l w w' := by
  have H0 : Hid (RowL w g b most add cap l ∧ Sinks l p) := Lib.hid ⟨h, hR⟩
  clear h hR
  go_enter Try.func74, Try.ntmps74
  go_wp2_with fail
  go_loopw [1] (fun i wr => ∃ (k : Nat) (l2 : List Th), i = .int .i64 k ∧ k ≤ 1000000 ∧ Hid (RowL wr g b most add cap l2 ∧ Sinks l2 k ∧ l2.Perm l ∧ Stay (fun k => k = b) w wr)) (fun i _ => 2000000 - (intOf i).toNat)
  case atStart => exact ⟨p, l, rfl, hp, Lib.hid ⟨H0.out.1, H0.out.2, .refl _, Stay.refl _ _⟩⟩
  case round =>
    obtain ⟨k, l2, rfl, hk, hI⟩ := hrel
    have hl := hI.out.2.2.1.length_eq
    have hcap := hI.out.1.len
    unfold maxLen at hcap
    have hln : l2.length ≤ 1000000 := by omega
    have CN := Lib.hid (next_any g b most add cap l2 wr hI.out.1 hln k hk)
    by_cases hx : nx l2 k < 0
    · have HE : Hid (∀ W, Below wr.heap.size wr W → HeapPost g b most add cap l w W) := Lib.hid (fun W hW => ⟨l2, hI.out.1.below hW, hI.out.2.1.stop (fun i h0 hi he => (nx_none hx i h0 hi he).elim), hI.out.2.2.1, hI.out.2.2.2.snoc (Stay.of_below hW) (fun k _ e => e)⟩)
      rw [nx_neg hx] at CN
      clear hx
      go_wp2_with fail
      refine (CN.out).mono ?_; rintro e w7 ⟨rfl, hB7⟩
      have HE7 : Hid (∀ n, HeapPost g b most add cap l w (w7.drewN n)) := Lib.hid (fun n => HE.out _ (Own.below_drewN hB7 n))
      clear hB7
      go_wp2_with fail
      go_quiet (fail)
      go_wp2_with fail
      go_returns
      exact ⟨rfl, HE7.out _⟩
    · obtain ⟨q, hq, hq0, hkq, hql, hqk, hqs⟩ := nx_some (by omega : 0 ≤ nx l2 k)
      rw [hq] at CN
      have HC : Hid (∀ W, Below wr.heap.size wr W → W.cell? ⟨g, 2, none⟩ = some (.slice (some ⟨b, 0, none⟩) l2.length cap)) := Lib.hid (fun W hW => (hI.out.1.below hW).cells.2.2)
      have CA : Hid (∀ W, Below wr.heap.size wr W → Calls Try.prog 72 #[.pointer (some ⟨b, q * 3, none⟩), .pointer (some ⟨b, k * 3, none⟩)] W fun e w' => e = .returned (.bool (bef (gt l2 q) (gt l2 k))) ∧ Below wr.heap.size wr w') := Lib.hid (fun W hW => (ahead_any g b most add cap l2 W (hI.out.1.below hW) q k (by omega) (by omega)).mono fun e w' hh => ⟨hh.1, hW.trans (hh.2.mono hW.size)⟩)
      have CS : Hid (∀ W, Below wr.heap.size wr W → Calls Try.prog 73 #[.pointer (some ⟨g, 0, none⟩), .int .i64 k, .int .i64 q] W fun e w' => e = .returned (.tuple #[]) ∧ RowL w' g b most add cap (swp l2 k q) ∧ Stay (fun k => k = b) W w') := Lib.hid (fun W hW => swap_any g b most add cap l2 W (hI.out.1.below hW) k q (by omega) (by omega))
      have hkl : k < l2.length := by omega
      cases hb : bef (gt l2 q) (gt l2 k) with
      | false =>
        rw [hb] at CA
        have HE : Hid (∀ W, Below wr.heap.size wr W → HeapPost g b most add cap l w W) := Lib.hid (fun W hW => ⟨l2, hI.out.1.below hW, hI.out.2.1.stop (fun i h0 hi he => bef_trans (hqs i h0 hi he) hb), hI.out.2.2.1, hI.out.2.2.2.snoc (Stay.of_below hW) (fun k _ e => e)⟩)
        clear CS hb hx hq hqs
        go_wp2_with fail
        refine (CN.out).mono ?_; rintro e w7 ⟨rfl, hB7⟩
        have H7 := Lib.hid hB7
        have c2 := HC.out w7 hB7
        clear hB7
        go_wp2_with fail
        have h5 : decide ((q : Int) < 0) = false := by simp
        refine wp_region_noPanic ?_
        go_region_held_law (fun W => Below wr.heap.size wr W ∧ W.cell? ⟨g, 2, none⟩ = some (.slice (some ⟨b, 0, none⟩) l2.length cap)) ((refine ⟨?_, HC.out _ ?_⟩ <;> (repeat' (first | assumption | exact H7.out | exact (‹Below wr.heap.size wr _ ∧ _›).1 | refine Below.drew ?_))))
          ((go_at_call 72; refine (CA.out _ ?_).mono ?_; (focus (first | assumption | exact (‹Below wr.heap.size wr _ ∧ _›).1 | exact H7.out.drew)); rintro e w9 ⟨rfl, hB9⟩))
        all_goals
          rename_i hHeld
          obtain ⟨hG8, -⟩ := hHeld
          have HG8 := Lib.hid (HE.out _ hG8)
          clear hG8 c2
          refine NoPanic.normal ?_
          go_wp2_with fail
          go_returns
          exact ⟨rfl, HG8.out⟩
      | true =>
        rw [hb] at CA
        have HE : Hid (∀ W W', Below wr.heap.size wr W → RowL W' g b most add cap (swp l2 k q) → Stay (fun k => k = b) W W' → RowL W' g b most add cap (swp l2 k q) ∧ Sinks (swp l2 k q) q ∧ (swp l2 k q).Perm l ∧ Stay (fun k => k = b) w W') := Lib.hid (fun W W' hW hr hs =>
          ⟨hr, hI.out.2.1.down hq0 hql hqk hb hqs, (swp_perm l2 hkl hql).trans hI.out.2.2.1, (hI.out.2.2.2.snoc (Stay.of_below hW) (fun k _ e => e)).snoc hs (fun k _ e => e)⟩)
        clear hb hx hq hqs
        generalize swp l2 k q = l3 at *
        go_wp2_with fail
        refine (CN.out).mono ?_; rintro e w7 ⟨rfl, hB7⟩
        have H7 := Lib.hid hB7
        have c2 := HC.out w7 hB7
        clear hB7
        go_wp2_with fail
        have h5 : decide ((q : Int) < 0) = false := by simp
        refine wp_region_noPanic ?_
        go_region_held_law (fun W => Below wr.heap.size wr W ∧ W.cell? ⟨g, 2, none⟩ = some (.slice (some ⟨b, 0, none⟩) l2.length cap)) ((refine ⟨?_, HC.out _ ?_⟩ <;> (repeat' (first | assumption | exact H7.out | exact (‹Below wr.heap.size wr _ ∧ _›).1 | refine Below.drew ?_))))
          ((go_at_call 72; refine (CA.out _ ?_).mono ?_; (focus (first | assumption | exact (‹Below wr.heap.size wr _ ∧ _›).1 | exact H7.out.drew)); rintro e w9 ⟨rfl, hB9⟩))
        all_goals
          rename_i hHeld
          obtain ⟨hG8, -⟩ := hHeld
          have HG8 := Lib.hid hG8
          have CS7 := Lib.hid (CS.out _ hG8)
          clear hG8 c2
          refine NoPanic.normal ?_
          go_wp2_with fail
          refine (CS7.out).mono ?_; rintro e w8 ⟨rfl, hr8, hs8⟩
          have H8 := Lib.hid (HE.out _ _ HG8.out hr8 hs8)
          clear hr8 hs8
          go_wp2_with fail
          go_roundw
          case rel => exact ⟨q, l3, rfl, by omega, H8⟩
          case measure => simp [intOf]; omega
end Go.Proofs.Ytliblcjfccijjaa.AgdL
