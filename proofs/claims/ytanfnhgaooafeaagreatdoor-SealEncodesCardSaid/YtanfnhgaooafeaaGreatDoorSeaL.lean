/- Whole frames (layer 14): plain: what was decoded is good, and has just that frame. -/
import Derived.Test.YtanfnhgaooafeaaGreatDoorSeaN
namespace Go.Proofs.YtanfnhgaooafeaaGreatDoor.Sea
open Go.ChangeShapes Go.WideShapes Go.ChangeAt Go.RowKit Go.Deep
open Go.Proofs.YtanfnhgaooafeaaGreatDoor.Byt Go.Proofs.YtanfnhgaooafeaaGreatDoor.Key Go.Proofs.YtanfnhgaooafeaaGreatDoor.Buf Go.Proofs.YtanfnhgaooafeaaGreatDoor.Hed Go.Proofs.YtanfnhgaooafeaaGreatDoor.Dat Go.Proofs.YtanfnhgaooafeaaGreatDoor.BufM Go.Proofs.YtanfnhgaooafeaaGreatDoor.Pkt
set_option linter.unusedVariables false
set_option linter.unusedSimpArgs false
theorem de_back (b : List UInt8) (h : deE b = 0) (ad : Option Addr) (cap : Nat) : seaG (memP (deP b) ad cap) = true ∧ Crc.sealB (inB (memP (deP b) ad cap)) = b := by
  have hP : deP b = sdP (b.take (b.length - 4)) := by unfold deP; rw [if_pos h]
  unfold deE at h
  by_cases h1 : 1100 < b.length
  · rw [if_pos h1] at h; omega
  · rw [if_neg h1] at h
    by_cases h2 : b.length < 5
    · rw [if_pos h2] at h; omega
    · rw [if_neg h2] at h
      cases h3 : Crc.goodB b with
      | false => rw [if_pos h3] at h; omega
      | true =>
        rw [if_neg (by rw [h3]; decide)] at h
        obtain ⟨g1, g2, -⟩ := sea_put (b.take (b.length - 4)) h ad cap
        rw [hP, g2]
        exact ⟨g1, frame_is h3⟩
/-- What is bent is refused by its sum. -/
theorem de_bent (b : List UInt8) (h1 : 5 ≤ b.length) (h2 : b.length ≤ 1100) (h3 : Crc.goodB b = false) : deE b = 6 ∧ deP b = zero := by
  have e : deE b = 6 := by
    unfold deE
    rw [if_neg (by omega), if_neg (by omega), if_pos h3]
  refine ⟨e, ?_⟩
  unfold deP
  rw [e]
  rfl
end Go.Proofs.YtanfnhgaooafeaaGreatDoor.Sea
