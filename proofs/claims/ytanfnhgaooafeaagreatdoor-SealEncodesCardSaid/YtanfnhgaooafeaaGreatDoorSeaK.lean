/- The chapter's example (layer 14). -/
import Derived.Test.YtanfnhgaooafeaaGreatDoorSeaC
import Derived.Test.YtanfnhgaooafeaaGreatDoorSeaE
namespace Go.Proofs.YtanfnhgaooafeaaGreatDoor.Sea
open Go.ChangeShapes Go.WideShapes Go.ChangeAt Go.RowKit Go.Deep
open Go.Proofs.YtanfnhgaooafeaaGreatDoor.Byt Go.Proofs.YtanfnhgaooafeaaGreatDoor.Key Go.Proofs.YtanfnhgaooafeaaGreatDoor.Buf Go.Proofs.YtanfnhgaooafeaaGreatDoor.Hed Go.Proofs.YtanfnhgaooafeaaGreatDoor.Dat Go.Proofs.YtanfnhgaooafeaaGreatDoor.BufM Go.Proofs.YtanfnhgaooafeaaGreatDoor.Pkt
set_option linter.unusedVariables false
set_option linter.unusedSimpArgs false
abbrev exP : Pk := ⟨1, (0, 0, 0), 0, 0, 0, 0, 0, 0, 0, none, 0, []⟩
theorem ex_good : seaG exP = true := by
  rw [seaG_123 (by decide) (by decide) (by decide), pulG_iff]
  refine ⟨.inl rfl, ?_, ⟨by decide, by decide⟩, ?_⟩
  · rw [gd_one rfl]; decide
  · rw [Pkt.eqP_iff]; exact ⟨rfl, rfl, rfl, rfl, rfl, rfl, rfl, rfl, rfl, rfl⟩
theorem ex_len : (inB exP).length = 9 := by
  unfold inB headB tB Pul.pulB
  rfl
/-- A good packet's frame is its packet's. -/
theorem de_got (p : Pk) (h : seaG p = true) (hk : Key.ok p.key) (hs : -9223372036854775808 ≤ p.stamp ∧ p.stamp ≤ 9223372036854775807) (hv : -9223372036854775808 ≤ p.value ∧ p.value ≤ 9223372036854775807) :
    deE (Crc.sealB (inB p)) = 0 ∧ ∀ ad cap, eqP p (memP (deP (Crc.sealB (inB p))) ad cap) = true := by
  obtain ⟨h1, h2⟩ := inB_len h
  obtain ⟨e1, e2⟩ := de_frame (inB p) h1 (by omega)
  obtain ⟨g1, g2⟩ := sea_got p h hk hs hv
  have e3 : deE (Crc.sealB (inB p)) = 0 := e1.trans g1
  refine ⟨e3, ?_⟩
  unfold deP
  rw [if_pos e3, e2]
  exact g2
theorem ex_size : sizeN exP = 13 := by
  unfold sizeN
  rw [if_pos ex_good, Crc.seal_len, ex_len]
set_option maxRecDepth 100000 in
set_option maxHeartbeats 2000000 in
theorem sworks_any (w : World) (hT : Crc.Tabs w) :
    Calls Tryz.prog 9 #[] w fun e w' => e = .returned (.bool true) ∧ Below w.heap.size w w' := by
  have hlen : (Crc.sealB (inB exP)).length = 13 := by rw [Crc.seal_len, ex_len]
  obtain ⟨g1, g2⟩ := de_got exP ex_good ⟨by decide, by decide, by decide⟩ (by decide) (by decide)
  have hkind : (deP (Crc.sealB (inB exP))).kind = 1 := ((Pkt.eqP_iff _ _).1 (g2 none 0)).1.symm
  have CE : Hid (∀ W, Below w.heap.size w W → Calls Tryz.prog 5 #[pval exP] W fun e w' => ∃ ad cap, e = .returned (.tuple #[.slice ad 13 cap, .int .i64 0]) ∧ Hid (OwnB w' W.heap.size (.slice ad 13 cap) (Crc.sealB (inB exP))) ∧ Hid (Below W.heap.size W w')) := Lib.hid (fun W hW => by
    have := encode_ok exP W ex_good (.inl rfl) (fun _ _ => rfl) (hT.below hW)
    unfold EncPost at this
    rwa [hlen] at this)
  have CZ : Hid (∀ W, Below w.heap.size w W → Calls Tryz.prog 8 #[pval exP] W fun e w' => e = .returned (.int .i64 13) ∧ Below W.heap.size W w') := Lib.hid (fun W hW => by
    have := size_any exP W (.inl rfl) (fun _ _ => rfl) (hT.below hW)
    rwa [ex_size] at this)
  have CD : Hid (∀ W base ad cap, OwnB W base (.slice ad 13 cap) (Crc.sealB (inB exP)) → Below w.heap.size w W → Calls Tryz.prog 10 #[.slice ad 13 cap] W (DecP (deP (Crc.sealB (inB exP))) 0 W)) := Lib.hid (fun W base ad cap ho hW => by
    have ho' := ho
    rw [← hlen] at ho'
    obtain ⟨p1, p2, p3, -⟩ := ho'.pos
    unfold maxLen at p2
    have := decode_any ad 13 cap (Crc.sealB (inB exP)) W hlen (by omega) (by omega) ho'.rd.1 p3 (hT.below hW)
    rwa [g1] at this)
  have HKd := Lib.hid hkind
  clear hT hlen g1 g2 hkind
  generalize deP (Crc.sealB (inB exP)) = D at *
  generalize Crc.sealB (inB exP) = sb at *
  go_enter Tryz.func9, Tryz.ntmps9
  go_upto_region 2 with (refine store_pk rfl _ _ rfl w.heap.size exP rfl rfl #[.int .i64 0, .int .i64 0, .int .i64 0, .int .u32 0, .int .i64 0, .int .i64 0, .int .i64 0, .int .i64 0, .int .i64 0, .int .i64 0, .int .i64 0, .slice none 0 0] (heap_alloc_last w _) rfl ?_)
  obtain ⟨W1, hW1⟩ : ∃ W1, Hid (W1 = (w.alloc (.cells #[.int .i64 0, .int .i64 0, .int .i64 0, .int .u32 0, .int .i64 0, .int .i64 0, .int .i64 0, .int .i64 0, .int .i64 0, .int .i64 0, .int .i64 0, .slice none 0 0] 27)).setRow w.heap.size exP.cells) := ⟨_, Lib.hid rfl⟩
  rw [← hW1.out]
  have HB1 : Hid (Below w.heap.size w W1) := Lib.hid (by rw [hW1.out]; exact below_setRow ((Below.refl _ _).alloc (Nat.le_refl _) _) (Nat.le_refl _) _)
  have HP1 : Hid (Blk W1 w.heap.size 27 exP.cells) := Lib.hid (by rw [hW1.out]; exact Blk.row (Blk.new w 27 #[.int .i64 0, .int .i64 0, .int .i64 0, .int .u32 0, .int .i64 0, .int .i64 0, .int .i64 0, .int .i64 0, .int .i64 0, .int .i64 0, .int .i64 0, .slice none 0 0]) _ rfl)
  clear hW1
  go_wp2_with (refine load_pk rfl _ rfl w.heap.size rfl exP HP1.out ?_)
  refine (CE.out W1 HB1.out).mono ?_; rintro e w2 ⟨ad, cap, rfl, HO2, HB2⟩
  have HB2' := Lib.hid (HB1.out.trans (HB2.out.mono HB1.out.size))
  have HP2 := Lib.hid (HP1.out.below HB2.out)
  have CD2 := Lib.hid (CD.out w2 _ ad cap HO2.out HB2'.out)
  clear CE CD HO2 HB2 HP1 HB1
  go_wp2_with fail
  refine (CD2.out).mono ?_; rintro e w3 ⟨ad3, cap3, rfl, HB3, HD3, -⟩
  go_upto_region 4 with (refine store_pk rfl _ _ rfl w3.heap.size (memP D ad3 cap3) rfl rfl #[.int .i64 0, .int .i64 0, .int .i64 0, .int .u32 0, .int .i64 0, .int .i64 0, .int .i64 0, .int .i64 0, .int .i64 0, .int .i64 0, .int .i64 0, .slice none 0 0] (heap_alloc_last w3 _) rfl ?_)
  obtain ⟨W4, hW4⟩ : ∃ W4, Hid (W4 = (w3.alloc (.cells #[.int .i64 0, .int .i64 0, .int .i64 0, .int .u32 0, .int .i64 0, .int .i64 0, .int .i64 0, .int .i64 0, .int .i64 0, .int .i64 0, .int .i64 0, .slice none 0 0] 27)).setRow w3.heap.size (memP D ad3 cap3).cells) := ⟨_, Lib.hid rfl⟩
  rw [← hW4.out]
  have hB34 : Below w3.heap.size w3 W4 := by rw [hW4.out]; exact below_setRow ((Below.refl _ _).alloc (Nat.le_refl _) _) (Nat.le_refl _) _
  have hB24 := HB3.out.trans (hB34.mono HB3.out.size)
  have HB4 := Lib.hid (HB2'.out.trans (hB24.mono HB2'.out.size))
  have HP4 := Lib.hid (HP2.out.below hB24)
  have HQ4 : Hid (Blk W4 w3.heap.size 27 (memP D ad3 cap3).cells) := Lib.hid (by rw [hW4.out]; exact Blk.row (Blk.new w3 27 #[.int .i64 0, .int .i64 0, .int .i64 0, .int .u32 0, .int .i64 0, .int .i64 0, .int .i64 0, .int .i64 0, .int .i64 0, .int .i64 0, .int .i64 0, .slice none 0 0]) _ rfl)
  have CZ4 := Lib.hid (CZ.out W4 HB4.out)
  have HK4 : Hid (∀ W, Below W4.heap.size W4 W → W.cell? ⟨w3.heap.size, 0, none⟩ = some (.int .i64 1)) := Lib.hid (fun W hW => by
    have := (HQ4.out.below hW).cell 0
    rw [this]
    show some (Value.int .i64 D.kind) = _
    rw [HKd.out])
  clear hW4 hB34 hB24 HB3 HD3 HB2' HP2 CD2 CZ
  go_wp2_with (first
    | (refine load_pk rfl _ rfl w.heap.size rfl exP HP4.out ?_)
    | (go_at_call 8; refine (CZ4.out).mono ?_; rintro e w5 ⟨rfl, hB5⟩; have k5 := HK4.out w5 hB5))
  go_ret
  exact ⟨rfl, HB4.out.trans (hB5.mono HB4.out.size)⟩
end Go.Proofs.YtanfnhgaooafeaaGreatDoor.Sea
