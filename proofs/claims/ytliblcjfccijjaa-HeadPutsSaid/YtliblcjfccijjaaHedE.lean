/- The chapter's example (layer 9). -/
import Derived.Test.YtliblcjfccijjaaHedD
namespace Go.Proofs.Ytliblcjfccijjaa.Hed
open Go.ChangeShapes Go.WideShapes Go.ChangeAt Go.RowKit Go.Deep
open Go.Proofs.Ytliblcjfccijjaa.Byt Go.Proofs.Ytliblcjfccijjaa.Key Go.Proofs.Ytliblcjfccijjaa.Buf Go.Proofs.Ytliblcjfccijjaa.BufM
set_option linter.unusedVariables false
set_option linter.unusedSimpArgs false
/-- The chapter's packet. -/
def ex : Pk := ⟨3, (300, 2, 7), 1, 0, 0, 0, 0, 0, 0, none, 0, []⟩
theorem ex_put : putS (20 : Int).toNat (0, []) ex = (0, [3, 1, 172, 2, 2, 7, 0, 0, 0]) := by
  have h300 : sev (un 300) = [172, 2] := by rw [show un 300 = 300 from rfl, sev_big (by omega), sev_small (by omega)]; rfl
  have e1 : wByte (20 : Int).toNat (0, []) [kb 3] = (0, [3]) := by decide
  have e2 : wByte (20 : Int).toNat (0, [3]) [kb 1] = (0, [3, 1]) := by decide
  have e3 : wNum (20 : Int).toNat (0, [3, 1]) (un 300) = (0, [3, 1, 172, 2]) := by unfold wNum; rw [h300]; decide
  have e4 : wByte (20 : Int).toNat (0, [3, 1, 172, 2]) [kb 2] = (0, [3, 1, 172, 2, 2]) := by decide
  have e5 : wFix (20 : Int).toNat (0, [3, 1, 172, 2, 2]) (un 7) 4 = (0, [3, 1, 172, 2, 2, 7, 0, 0, 0]) := by decide
  unfold putS ex
  rw [if_pos (by decide)]
  simp only
  rw [e1, e2, e3, e4, e5]
theorem ex_good : gd ex = true := by decide
theorem example_any (w : World) :
    Calls Try.prog 44 #[] w fun e w' => e = .returned (pval ex) ∧ Below w.heap.size w w' := by
  have HP : Hid (Ending.returned (pval ex) = Ending.returned (.agg #[.int .i64 3, .int .i64 300, .int .i64 2, .int .u32 7, .int .i64 1, .int .i64 0, .int .i64 0, .int .i64 0, .int .i64 0, .int .i64 0, .int .i64 0, .slice none 0 0])) := Lib.hid rfl
  rw [HP.out]
  go_enter Try.func44, Try.ntmps44
  go_wp2_with fail
  go_returns
  exact ⟨rfl, (Below.refl _ _).alloc (Nat.le_refl _) _⟩
set_option maxRecDepth 100000 in
set_option maxHeartbeats 1000000 in
theorem hworks_any (w : World) :
    Calls Try.prog 15 #[] w fun e w' => e = .returned (.bool true) ∧ Below w.heap.size w w' := by
  have C0 := Lib.hid (Buf.new_any 20 (by omega) w)
  have CE := Lib.hid (fun W => example_any W)
  have CG := Lib.hid (fun W => good_any ex W)
  rw [ex_good] at CG
  have CP : Hid (∀ w1, WR w1 w.heap.size w.heap.size (20 : Int).toNat (0, []) none → Calls Try.prog 17 #[.pointer (some ⟨w.heap.size, 0, none⟩), pval ex] w1 (WPost w1 w.heap.size w.heap.size (20 : Int).toNat none (0, [3, 1, 172, 2, 2, 7, 0, 0, 0]))) := Lib.hid (fun w1 h => by
    have := hput_any ex w.heap.size w.heap.size (20 : Int).toNat (0, []) none w1 h (by simp)
    rwa [ex_put] at this)
  have CD : Hid (∀ w1 row, WR w1 w.heap.size w.heap.size (20 : Int).toNat (0, [3, 1, 172, 2, 2, 7, 0, 0, 0]) row → Calls Try.prog 18 #[.pointer (some ⟨w.heap.size, 0, none⟩)] w1 (fun e w2 => ∃ ad cap, e = .returned (.tuple #[.slice ad 9 cap, .int .i64 0]) ∧ Below w1.heap.size w1 w2 ∧ (convert 25 9 (.slice ad 9 cap)).run Try.prog w2 = .ok (.string ⟨#[3, 1, 172, 2, 2, 7, 0, 0, 0]⟩) w2)) := Lib.hid (fun w1 row h => (done_any w.heap.size w.heap.size (20 : Int).toNat _ row w1 h (by simp)).mono fun e w2 hh => by
    obtain ⟨v, rfl, ho, hB⟩ := hh
    simp only [if_true] at ho
    obtain ⟨ad, cap, rfl, _⟩ := Own.shape ho
    exact ⟨ad, cap, rfl, hB, ho.str (Below.refl _ _)⟩)
  generalize pval ex = v at *
  go_enter Try.func15, Try.ntmps15
  go_wp2_with fail
  refine (C0.out).mono ?_; rintro e w1 ⟨rfl, hr, hB, hs⟩
  have HR1 := Lib.hid hr
  have HB1 := Lib.hid hB
  clear hr hB hs
  go_wp2_with fail
  refine (CE.out _).mono ?_; rintro e w2 ⟨rfl, hB⟩
  have CP := Lib.hid (CP.out w2 (HR1.out.kept hB))
  have HB2 := Lib.hid (HB1.out.trans (hB.mono HB1.out.size))
  clear hB
  go_wp2_with fail
  refine (CP.out).mono ?_; rintro e w3 ⟨rfl, row3, hr, hst⟩
  have CD := Lib.hid (CD.out w3 _ hr)
  have HB3 := Lib.hid (HB2.out.trans hst.below)
  clear hr hst
  go_wp2_with fail
  refine (CD.out).mono ?_; rintro e w4 ⟨ad, cap, rfl, hB, hR⟩
  have HB4 := Lib.hid (HB3.out.trans (hB.mono HB3.out.size))
  clear hB
  go_wp2_with fail
  refine (CE.out _).mono ?_; rintro e w5 ⟨rfl, hB⟩
  have HB5 := Lib.hid (HB4.out.trans (hB.mono HB4.out.size))
  clear hB
  go_wp2_with fail
  refine (CG.out _).mono ?_; rintro e w6 ⟨rfl, hB⟩
  have HB6 := Lib.hid (HB5.out.trans (hB.mono HB5.out.size))
  clear hB
  go_wp2_with fail
  go_ret
  exact ⟨rfl, HB6.out⟩
end Go.Proofs.Ytliblcjfccijjaa.Hed
namespace Go.Proofs.Ytliblcjfccijjaa.Hed
open Go.ChangeShapes Go.WideShapes Go.ChangeAt Go.RowKit Go.Deep
open Go.Proofs.Ytliblcjfccijjaa.Byt Go.Proofs.Ytliblcjfccijjaa.Key Go.Proofs.Ytliblcjfccijjaa.Buf
/-- A box that the call laid. -/
theorem one_box (w w0 : World) (t : TypeId) (cs : Array Value) (h : w0 = w.alloc (.cells cs t)) : Below w.heap.size w w0 ∧ Blk w0 w.heap.size t cs := by
  subst h
  exact ⟨(Below.refl _ _).alloc (Nat.le_refl _) _, Blk.new _ _ _⟩
/-- A packet's cells. -/
theorem blk_cells {W : World} {b : Nat} {t : TypeId} {p : Pk} (h : Blk W b t p.cells) : W.cell? ⟨b, 0, none⟩ = some (.int .i64 p.kind) ∧ W.cell? ⟨b, 1, none⟩ = some (.int .i64 p.key.1) ∧ W.cell? ⟨b, 2, none⟩ = some (.int .i64 p.key.2.1) ∧ W.cell? ⟨b, 3, none⟩ = some (.int .u32 p.key.2.2) ∧ W.cell? ⟨b, 4, none⟩ = some (.int .i64 p.hops) ∧
    W.cell? ⟨b, 5, none⟩ = some (.int .i64 p.no) ∧ W.cell? ⟨b, 6, none⟩ = some (.int .i64 p.to) ∧ W.cell? ⟨b, 7, none⟩ = some (.int .i64 p.index) ∧ W.cell? ⟨b, 8, none⟩ = some (.int .i64 p.total) ∧ W.cell? ⟨b, 9, none⟩ = some (.int .i64 p.stamp) ∧ W.cell? ⟨b, 10, none⟩ = some (.int .i64 p.value) ∧ W.cell? ⟨b, 11, none⟩ = some (.slice p.ad p.body.length p.cap) :=
  ⟨h.cell 0, h.cell 1, h.cell 2, h.cell 3, h.cell 4, h.cell 5, h.cell 6, h.cell 7, h.cell 8, h.cell 9, h.cell 10, h.cell 11⟩
theorem pk_cells (w w0 : World) (p : Pk) (h : w0 = w.alloc (.cells p.cells 27)) (W : World) (hW : Below w0.heap.size w0 W) : W.cell? ⟨w.heap.size, 0, none⟩ = some (.int .i64 p.kind) ∧ W.cell? ⟨w.heap.size, 1, none⟩ = some (.int .i64 p.key.1) ∧ W.cell? ⟨w.heap.size, 2, none⟩ = some (.int .i64 p.key.2.1) ∧ W.cell? ⟨w.heap.size, 3, none⟩ = some (.int .u32 p.key.2.2) ∧ W.cell? ⟨w.heap.size, 4, none⟩ = some (.int .i64 p.hops) ∧
    W.cell? ⟨w.heap.size, 5, none⟩ = some (.int .i64 p.no) ∧ W.cell? ⟨w.heap.size, 6, none⟩ = some (.int .i64 p.to) ∧ W.cell? ⟨w.heap.size, 7, none⟩ = some (.int .i64 p.index) ∧ W.cell? ⟨w.heap.size, 8, none⟩ = some (.int .i64 p.total) ∧ W.cell? ⟨w.heap.size, 9, none⟩ = some (.int .i64 p.stamp) ∧ W.cell? ⟨w.heap.size, 10, none⟩ = some (.int .i64 p.value) ∧ W.cell? ⟨w.heap.size, 11, none⟩ = some (.slice p.ad p.body.length p.cap) :=
  blk_cells ((one_box w w0 _ _ h).2.below hW)
end Go.Proofs.Ytliblcjfccijjaa.Hed
