/- Contracts of package graph (layer 16): a graph is made. -/
import Derived.Test.YtlmdandgjapmjaaGrfC
import Derived.Test.YtlmdandgjapmjaaGrfD
namespace Go.Proofs.Ytlmdandgjapmjaa.Grf
open Go.ChangeShapes Go.WideShapes Go.ChangeAt Go.RowKit
set_option linter.unusedVariables false
set_option maxRecDepth 100000
theorem new_out (z : Int) (h : z < 1 ∨ 64 < z) (ad : Option Addr) (len cap : Nat) (w : World) :
    Calls Try.prog 21 #[.int .i64 z, .slice ad len cap] w fun e w' => e = .returned (.tuple #[.pointer none, .int .i64 1]) ∧ w = w' := by
  by_cases h1 : z < 1
  · clear h
    go_enter Try.func21, Try.ntmps21
    go_wp2_with fail
    go_ret2
    exact ⟨rfl, rfl⟩
  · have h2 : 64 < z := by omega
    have h3 : decide (z < 1) = false := decide_eq_false h1
    clear h h1
    go_enter Try.func21, Try.ntmps21
    go_wp2_with fail
    go_ret2
    exact ⟨rfl, rfl⟩
/-- What making a graph leaves. -/
def NPost (n : Nat) (zs : List Pr) (w : World) (e : Ending) (w' : World) : Prop :=
  (erF n [] zs = 0 → ∃ g b, e = .returned (.tuple #[.pointer (some ⟨g, 0, none⟩), .int .i64 0]) ∧ GR w' g b n zs ∧ w.heap.size ≤ g ∧ w.heap.size ≤ b) ∧
  (erF n [] zs ≠ 0 → e = .returned (.tuple #[.pointer none, .int .i64 (erF n [] zs)])) ∧ Below w.heap.size w w'
theorem two_cells (w W : World) (x y : Int) (e : TypeId) (h : Below (w.alloc (.cells #[.int .i64 x, .int .i64 y] e)).heap.size (w.alloc (.cells #[.int .i64 x, .int .i64 y] e)) W) :
    W.cell? ⟨w.heap.size, 0, none⟩ = some (.int .i64 x) ∧ W.cell? ⟨w.heap.size, 1, none⟩ = some (.int .i64 y) := by
  have h1 := (Rw.At.box (enc := enc) (e := e) w (x, y) _ rfl).below h (by rw [World.size_alloc]; omega)
  exact ⟨h1 0 _ rfl, h1 1 _ rfl⟩
set_option maxHeartbeats 4000000 in
theorem new_in (n : Nat) (h1 : 1 ≤ n) (h64 : n ≤ 64) (ad : Option Addr) (len cap : Nat) (zs : List Pr) (hlen : zs.length = len) (hm : len < 9223372036854775807) (hI : ∀ p ∈ zs, inI p.1 ∧ inI p.2) (w : World) (hr : RdG w ad zs) :
    Calls Try.prog 21 #[.int .i64 (n : Int), .slice ad len cap] w (NPost n zs w) := by
  have CE := Lib.hid (empty_any n h64 w)
  have HL := Lib.hid hlen
  have HR := Lib.hid hr
  have HI := Lib.hid hI
  have hd1 : decide ((n : Int) < 1) = false := decide_eq_false (by omega)
  have hd2 : decide (64 < (n : Int)) = false := decide_eq_false (by omega)
  clear hlen hr hI
  go_enter Try.func21, Try.ntmps21
  go_wp2_with fail
  refine (CE.out).mono ?_; rintro e w0 ⟨g, b, rfl, hG, hg, hb, hB0⟩
  have HG := Lib.hid hG
  have HB0 := Lib.hid hB0
  have hg := Lib.hid hg
  have hb := Lib.hid hb
  clear hG hB0 CE
  go_wp2_with fail
  go_loopw [20] (fun i wr => ∃ k : Nat, k ≤ len ∧ i = .int .i64 k ∧ Hid (GR wr g b n (zs.take k)) ∧ Hid (Below w.heap.size w wr) ∧ Hid (erF n [] zs = erF n (zs.take k) (zs.drop k))) (fun i _ => len - (intOf i).toNat)
  case atStart => exact ⟨0, Nat.zero_le _, rfl, by rw [List.take_zero]; exact HG, HB0, Lib.hid (by rw [List.take_zero, List.drop_zero])⟩
  case round =>
    obtain ⟨k, hk, rfl, HGk, HBk, HE⟩ := hrel
    by_cases hlt : k < len
    · obtain ⟨bz, off, rfl, hbz, c0, c1⟩ := rd_at (HR.out.below HBk.out) (i := k) (by rw [HL.out]; exact hlt)
      have HTS := Lib.hid (take_snoc (zs := zs) (k := k) (by rw [HL.out]; exact hlt))
      have HES := Lib.hid (erF_step (n := n) (zs := zs) (k := k) (by rw [HL.out]; exact hlt))
      have HEX := Lib.hid (erF_stop (n := n) (zs := zs) (k := k) (by rw [HL.out]; exact hlt))
      have hin : inI (zs.getD k (0, 0)).1 ∧ inI (zs.getD k (0, 0)).2 := HI.out _ (by
        have : zs.getD k (0, 0) = zs[k]'(by rw [HL.out]; exact hlt) := by simp [List.getD, show k < zs.length by rw [HL.out]; exact hlt]
        rw [this]; exact List.getElem_mem _)
      generalize zs.getD k (0, 0) = p at *
      obtain ⟨x, y⟩ := p
      simp only at c0 c1 HTS HES HEX hin
      obtain ⟨W2, hW2⟩ : ∃ W2, Hid (W2 = wr.alloc (.cells #[.int .i64 x, .int .i64 y] 53)) := ⟨_, Lib.hid rfl⟩
      have HB2 : Hid (Below wr.heap.size wr W2) := Lib.hid (by rw [hW2.out]; exact (Below.refl _ _).alloc (Nat.le_refl _) _)
      have HC2 : Hid (∀ W, Below W2.heap.size W2 W → W.cell? ⟨wr.heap.size, 0, none⟩ = some (.int .i64 x) ∧ W.cell? ⟨wr.heap.size, 1, none⟩ = some (.int .i64 y)) := Lib.hid (by rw [hW2.out]; exact fun W h => two_cells wr W x y _ h)
      have HG2 := Lib.hid (HGk.out.below HB2.out)
      have CW := Lib.hid (wrong_any g b n (zs.take k) x y hin.1 hin.2 W2 HG2.out)
      have HBW := Lib.hid (HBk.out.trans (HB2.out.mono HBk.out.size))
      by_cases hw : Grf.wr n (zs.take k) x y = 0
      · have CL : Hid (∀ W, Below W2.heap.size W2 W → Calls Try.prog 27 #[.pointer (some ⟨g, 0, none⟩), .int .i64 x, .int .i64 y] W
            fun e w' => e = .returned (.tuple #[]) ∧ Hid (GR w' g b n (zs.take (k + 1))) ∧ Hid (Below w.heap.size w w')) := Lib.hid (fun W hB => by
          have hz := wr_zero.1 hw
          obtain ⟨a1, a2, a3, a4, a5, a6⟩ := hz
          obtain ⟨x', rfl⟩ := Int.eq_ofNat_of_zero_le a1
          obtain ⟨y', rfl⟩ := Int.eq_ofNat_of_zero_le a3
          have hlt' : (zs.take k).length < maxLen := by rw [List.length_take]; unfold maxLen; omega
          refine (link_any g b n x' y' (zs.take k) (by omega) (by omega) (by omega) a6 hlt' W (HG2.out.below hB)).mono ?_
          rintro e w' ⟨he, h1, h2⟩
          have hBW' := HBW.out.trans (hB.mono HBW.out.size)
          refine ⟨he, Lib.hid (by rw [HTS.out]; exact h1), Lib.hid (hBW'.trans (h2.below (fun j hj => ?_) hBW'.size))⟩
          rcases hj with rfl | rfl
          · exact hg.out
          · exact hb.out)
        have HE2 := Lib.hid (HE.out.trans (HES.out hw))
        rw [hw] at CW
        clear HES HEX HTS HE hw hin HI HG2 HBW
        go_upto_region 7 with fail
        rw [← hW2.out]
        obtain ⟨d0, d1⟩ := HC2.out W2 (Below.refl _ _)
        clear c0 c1
        go_wp2_with fail
        refine (CW.out).mono ?_; rintro e w3 ⟨rfl, hB3⟩
        have CLL := Lib.hid (CL.out w3 hB3)
        obtain ⟨e0, e1⟩ := HC2.out w3 hB3
        clear hB3 CL CW d0 d1
        go_wp2_with fail
        refine (CLL.out).mono ?_; rintro e w4 ⟨rfl, HG4, HB4⟩
        clear CLL e0 e1
        go_wp2_with fail
        go_roundw
        case rel => exact ⟨k + 1, by omega, by go_num, HG4, HB4, HE2⟩
        case measure => simp [intOf]; omega
      · have HP : Hid (∀ W, Below W2.heap.size W2 W → NPost n zs w (.returned (.tuple #[.pointer none, .int .i64 (Grf.wr n (zs.take k) x y)])) W) := Lib.hid (fun W hB => by
          have h0 : erF n [] zs = Grf.wr n (zs.take k) x y := by rw [HE.out, HEX.out hw]
          exact ⟨fun h => absurd (h0.symm.trans h) hw, fun _ => by rw [h0], HBW.out.trans (hB.mono HBW.out.size)⟩)
        have hv : (Grf.wr n (zs.take k) x y != 0) = true := by simpa using hw
        clear HES HEX HTS HE hw hin HI HG2 HBW
        generalize Grf.wr n (zs.take k) x y = v at *
        go_upto_region 7 with fail
        rw [← hW2.out]
        obtain ⟨d0, d1⟩ := HC2.out W2 (Below.refl _ _)
        clear c0 c1
        go_wp2_with fail
        refine (CW.out).mono ?_; rintro e w3 ⟨rfl, hB3⟩
        have HPP := Lib.hid (HP.out w3 hB3)
        clear hB3 HP CW d0 d1
        go_wp2_with fail
        go_ret2
        exact HPP.out
    · obtain rfl : k = len := by omega
      have HP : Hid (NPost n zs w (.returned (.tuple #[.pointer (some ⟨g, 0, none⟩), .int .i64 0])) wr) := Lib.hid (by
        have h0 : erF n [] zs = 0 := by rw [HE.out, List.drop_of_length_le (by rw [HL.out]; exact Nat.le_refl _)]; rfl
        have hG := HGk.out
        rw [List.take_of_length_le (by rw [HL.out]; exact Nat.le_refl _)] at hG
        exact ⟨fun _ => ⟨g, b, rfl, hG, hg.out, hb.out⟩, fun h => absurd h0 h, HBk.out⟩)
      go_wp2_with fail
      go_ret2
      exact HP.out
end Go.Proofs.Ytlmdandgjapmjaa.Grf
