/- Get of both, of bytes (layer 13). -/
import Derived.Test.YtidfdlpdacbkoaaChuN
namespace Go.Proofs.Ytidfdlpdacbkoaa.Chu
open Go.ChangeShapes Go.WideShapes Go.ChangeAt Go.RowKit Go.Deep
open Go.Proofs.Ytidfdlpdacbkoaa.Byt Go.Proofs.Ytidfdlpdacbkoaa.Key Go.Proofs.Ytidfdlpdacbkoaa.Buf Go.Proofs.Ytidfdlpdacbkoaa.Hed Go.Proofs.Ytidfdlpdacbkoaa.Dat Go.Proofs.Ytidfdlpdacbkoaa.BufM Go.Proofs.Ytidfdlpdacbkoaa.Pkt
set_option linter.unusedVariables false
set_option linter.unusedSimpArgs false
/-- Get where something is wrong. -/
theorem ucget_bad (p : Pk) (g : Nat) (l : List UInt8) (w : World) (h : RR w g (0, l)) (he : dE l ≠ 0) :
    Calls Try.prog 20 #[.pointer (some ⟨g, 0, none⟩), pval p] w fun e w' => e = .returned (.tuple #[pval zero, .int .i64 ((dE l : Nat) : Int)]) ∧ RStep w w' g := by
  obtain ⟨q1, -⟩ := cf_d p l
  refine (cget_any p g (0, l) w h).mono fun e w' hq => ?_
  obtain ⟨h1, h2, -⟩ := hq
  have := h2 (by rw [q1]; omega)
  rw [q1] at this
  exact ⟨this, h1.out⟩
/-- Get where nothing is wrong. -/
theorem ucget_ok (p : Pk) (g : Nat) (l : List UInt8) (w : World) (h : RR w g (0, l)) (he : dE l = 0) :
    Calls Try.prog 20 #[.pointer (some ⟨g, 0, none⟩), pval p] w fun e w' => ∃ ad cap, e = .returned (.tuple #[pval (memP (dP p l) ad cap), .int .i64 0]) ∧ Hid (OwnB w' (w.heap.size + 2) (.slice ad (dP p l).body.length cap) (dP p l).body) ∧ Hid (RR w' g (0, dR l)) ∧ Hid (RStep w w' g) := by
  obtain ⟨q1, q2⟩ := cf_d p l
  obtain ⟨q3, q4⟩ := q2 he
  refine (cget_any p g (0, l) w h).mono fun e w' hq => ?_
  obtain ⟨h1, -, h3⟩ := hq
  obtain ⟨ad, cap, e1, e2, e3⟩ := h3 (by rw [q1, he]; rfl)
  rw [q4] at e1 e2
  rw [q3] at e3
  exact ⟨ad, cap, e1, e2, e3, h1⟩
/-- The document's Get where something is wrong. -/
theorem drcget_bad (p : Pk) (ad0 : Option Addr) (len0 cap0 G : Nat) (l : List UInt8) (w : World) (h : RdS w G ad0 len0 cap0 l) (hG : G ≤ w.heap.size) (he : dE l ≠ 0) :
    Calls Try.prog 22 #[.slice ad0 len0 cap0, pval p] w fun e w' => e = .returned (.tuple #[pval zero, .slice none 0 0, .int .i64 ((dE l : Nat) : Int)]) ∧ Below w.heap.size w w' :=
  (rcget_any p ad0 len0 cap0 G l w h hG).mono fun e w' hq => ⟨hq.2.1 he, hq.1⟩
/-- The document's Get where nothing is wrong. -/
theorem drcget_ok (p : Pk) (ad0 : Option Addr) (len0 cap0 G : Nat) (l : List UInt8) (w : World) (h : RdS w G ad0 len0 cap0 l) (hG : G ≤ w.heap.size) (he : dE l = 0) :
    Calls Try.prog 22 #[.slice ad0 len0 cap0, pval p] w fun e w' => ∃ ad cap ad2 cap2, e = .returned (.tuple #[pval (memP (dP p l) ad cap), .slice ad2 (dR l).length cap2, .int .i64 0]) ∧ Hid (RdB w' ad (dP p l).body) ∧ Below w.heap.size w w' :=
  (rcget_any p ad0 len0 cap0 G l w h hG).mono fun e w' hq => by
    obtain ⟨ad, cap, ad2, cap2, e1, e2⟩ := hq.2.2 he
    exact ⟨ad, cap, ad2, cap2, e1, Lib.hid e2, hq.1⟩
end Go.Proofs.Ytidfdlpdacbkoaa.Chu
