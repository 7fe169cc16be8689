/- Contracts (layer 14): Decode. -/
import Derived.Test.YtanfnhgaooafeaaGreatDoorSeaD
import Derived.Test.YtanfnhgaooafeaaGreatDoorCrcX
namespace Go.Proofs.YtanfnhgaooafeaaGreatDoor.Sea
open Go.ChangeShapes Go.WideShapes Go.ChangeAt Go.RowKit Go.Deep
open Go.Proofs.YtanfnhgaooafeaaGreatDoor.Byt Go.Proofs.YtanfnhgaooafeaaGreatDoor.Key Go.Proofs.YtanfnhgaooafeaaGreatDoor.Buf Go.Proofs.YtanfnhgaooafeaaGreatDoor.Hed Go.Proofs.YtanfnhgaooafeaaGreatDoor.Dat Go.Proofs.YtanfnhgaooafeaaGreatDoor.BufM Go.Proofs.YtanfnhgaooafeaaGreatDoor.Pkt
set_option linter.unusedVariables false
set_option linter.unusedSimpArgs false
/-- What is wrong with bytes as a frame, whatever they tell. -/
def beE (b : List UInt8) : Nat := if 1100 < b.length then 4 else if b.length < 5 then 3 else if Crc.goodB b = false then 6 else 0
theorem deE_be (b : List UInt8) : deE b = if beE b ≠ 0 then beE b else sdE (b.take (b.length - 4)) := by
  unfold deE beE
  by_cases h1 : 1100 < b.length
  · simp [h1]
  · by_cases h2 : b.length < 5
    · simp [h1, h2]
    · by_cases h3 : Crc.goodB b = false
      · simp [h1, h2, h3]
      · simp [h1, h2, h3]
set_option maxRecDepth 100000 in
set_option maxHeartbeats 2000000 in
theorem bent_any (ad : Option Addr) (len cap : Nat) (l : List UInt8) (w : World) (hlen : l.length = len) (hcap : len ≤ cap) (hm : cap ≤ 9223372036854775807) (hr : RdB w ad l) (hT : Crc.Tabs w) :
    Calls Tryz.prog 22 #[.slice ad len cap] w fun e w' => e = .returned (.int .i64 ((beE l : Nat) : Int)) ∧ Below w.heap.size w w' := by
  have CG := Lib.hid (Crc.good_any ad len cap l w hlen hcap hm hr hT)
  unfold beE
  rw [hlen]
  by_cases h1 : 1100 < len
  · rw [if_pos h1]
    have h1' : (1100 : Int) < (len : Int) := by omega
    clear hr hT CG hlen
    go_enter Tryz.func22, Tryz.ntmps22
    go_wp2_with fail
    go_ret
    exact ⟨rfl, Below.refl _ _⟩
  · rw [if_neg h1]
    have h1' : ¬ (1100 : Int) < (len : Int) := by omega
    by_cases h2 : len < 5
    · rw [if_pos h2]
      have h2' : (len : Int) ≤ 4 := by omega
      clear hr hT CG hlen
      go_enter Tryz.func22, Tryz.ntmps22
      go_wp2_with fail
      go_ret
      exact ⟨rfl, Below.refl _ _⟩
    · rw [if_neg h2]
      have h2' : ¬ (len : Int) ≤ 4 := by omega
      generalize Crc.goodB l = gb at *
      clear hr hT hlen
      cases gb with
      | true =>
        rw [if_neg (by decide)]
        go_enter Tryz.func22, Tryz.ntmps22
        go_wp2_with fail
        refine (CG.out).mono ?_; rintro e w1 ⟨rfl, hB1⟩
        go_wp2_with fail
        go_ret
        exact ⟨rfl, hB1⟩
      | false =>
        rw [if_pos rfl]
        go_enter Tryz.func22, Tryz.ntmps22
        go_wp2_with fail
        refine (CG.out).mono ?_; rintro e w1 ⟨rfl, hB1⟩
        go_wp2_with fail
        go_ret
        exact ⟨rfl, hB1⟩
/-- What Decode hands back. -/
def DecP (P : Pk) (n : Nat) (w : World) (e : Ending) (w' : World) : Prop :=
  ∃ ad cap, e = .returned (.tuple #[pval (memP P ad cap), .int .i64 ((n : Nat) : Int)]) ∧ Hid (Below w.heap.size w w') ∧ Hid (RdB w' ad P.body) ∧ Hid (P.kind = 4 ∨ P.kind = 6 → ad = none → cap = 0)
set_option maxRecDepth 100000 in
set_option maxHeartbeats 2000000 in
theorem decode_any (ad : Option Addr) (len cap : Nat) (l : List UInt8) (w : World) (hlen : l.length = len) (hcap : len ≤ cap) (hm : cap ≤ 9223372036854775807) (hr : RdB w ad l) (hn : ad = none → cap = 0) (hT : Crc.Tabs w) :
    Calls Tryz.prog 10 #[.slice ad len cap] w (DecP (deP l) (deE l) w) := by
  obtain ⟨wb, hwb⟩ : ∃ wb, Hid (wb = w.alloc (.cells (Pk.cells zero) 27)) := ⟨_, Lib.hid rfl⟩
  have HX := Lib.hid (one_box w wb _ _ hwb.out)
  have CB := Lib.hid (bent_any ad len cap l wb hlen hcap hm (hr.below HX.out.1) (hT.below HX.out.1))
  unfold Pk.cells zero at hwb
  simp only [List.length_nil] at hwb
  by_cases hb : beE l = 0
  · have hE : deE l = sdE (l.take (l.length - 4)) := by rw [deE_be, if_neg (by simp [hb])]
    have hP : deP l = if sdE (l.take (l.length - 4)) = 0 then sdP (l.take (l.length - 4)) else zero := by unfold deP; rw [hE]
    have h5 : 5 ≤ len ∧ len ≤ 1100 := by
      unfold beE at hb
      rw [hlen] at hb
      by_cases h1 : 1100 < len
      · rw [if_pos h1] at hb; omega
      · rw [if_neg h1] at hb
        by_cases h2 : len < 5
        · rw [if_pos h2] at hb; omega
        · omega
    obtain ⟨n, rfl⟩ : ∃ n, len = n + 4 := ⟨len - 4, by omega⟩
    rw [hlen, show n + 4 - 4 = n from by omega] at hE hP
    have hl2 : (l.take n).length = n := by rw [List.length_take]; omega
    have CRd : Hid (∀ W, Below w.heap.size w W → Calls Tryz.prog 24 #[.slice ad n cap] W fun e w' => ∃ g, e = .returned (.pointer (some ⟨g, 0, none⟩)) ∧ RR w' g (0, l.take n) ∧ Below W.heap.size W w' ∧ W.heap.size ≤ g) := Lib.hid (fun W hW => (Buf.read_any ad n cap (l.take n) W hl2 (by omega) ((hr.take n).below hW) hn).mono fun e w' hp => by
      obtain ⟨g, h1, h2, h3, h4, -⟩ := hp
      exact ⟨g, h1, h2, h3, h4⟩)
    have CK := Lib.hid (fun W g h => read_pk g (l.take n) W h)
    rw [hb] at CB
    rw [hE, hP]
    have HI1 : IntKind.i64.wrap (((n + 4 : Nat) : Int) - 4) = (n : Int) := by rw [IntKind.wrap_i64]; omega
    have hin : (n : Int) ≤ (cap : Int) ∧ (0 : Int) ≤ (n : Int) ∧ (cap : Int) ≤ 9223372036854775807 ∧ n ≤ cap := by omega
    obtain ⟨hin1, hin2, hin3, hin4⟩ := hin
    have h0 := HX.out.1.size
    clear hr hT hE hP hlen hn hb hl2
    generalize sdE (l.take n) = en at *
    generalize sdP (l.take n) = P at *
    generalize l.take n = r at *
    obtain ⟨Z, hZ⟩ : ∃ Z, (if en = 0 then P else zero) = Z := ⟨_, rfl⟩
    rw [hZ]
    have HZ := Lib.hid hZ
    clear hZ
    go_enter Tryz.func10, Tryz.ntmps10
    go_upto_region 1 with fail
    rw [← hwb.out]
    go_wp2_with fail
    refine (CB.out).mono ?_; rintro e w1 ⟨rfl, hB1⟩
    have HB1 := Lib.hid (HX.out.1.trans (hB1.mono HX.out.1.size))
    have HQ1 := Lib.hid (HX.out.2.below hB1)
    have HS1 := Lib.hid (Nat.lt_of_lt_of_le HX.out.2.lt hB1.size)
    clear hB1 CB
    go_wp2_with fail
    refine (CRd.out w1 HB1.out).mono ?_; rintro e w2 ⟨g, rfl, hr2, hB2, hg2⟩
    have CK2 := Lib.hid (CK.out w2 g hr2)
    have HB2 := Lib.hid hB2
    have HG2 := Lib.hid hg2
    clear hr2 hB2 hg2 CK CRd
    go_wp2_with fail
    refine (CK2.out).mono ?_; rintro e w3 ⟨q, rfl, HB3, HK3⟩
    go_upto_region 5 with (refine store_pk rfl _ _ rfl w3.heap.size q rfl rfl #[.int .i64 0, .int .i64 0, .int .i64 0, .int .u32 0, .int .i64 0, .int .i64 0, .int .i64 0, .int .i64 0, .int .i64 0, .int .i64 0, .int .i64 0, .slice none 0 0] (heap_alloc_last w3 _) rfl ?_)
    obtain ⟨W4, hW4⟩ : ∃ W4, Hid (W4 = (w3.alloc (.cells #[.int .i64 0, .int .i64 0, .int .i64 0, .int .u32 0, .int .i64 0, .int .i64 0, .int .i64 0, .int .i64 0, .int .i64 0, .int .i64 0, .int .i64 0, .slice none 0 0] 27)).setRow w3.heap.size q.cells) := ⟨_, Lib.hid rfl⟩
    rw [← hW4.out]
    have hB13 : Below w1.heap.size w1 w3 := HB2.out.trans (HB3.out.mono HG2.out)
    have hB34 : Below w3.heap.size w3 W4 := by rw [hW4.out]; exact below_setRow ((Below.refl _ _).alloc (Nat.le_refl _) _) (Nat.le_refl _) _
    have hB14 := hB13.trans (hB34.mono hB13.size)
    have HB34 := Lib.hid hB34
    have HQ4 := Lib.hid (HQ1.out.below hB14)
    have HP4 : Hid (Blk W4 w3.heap.size 27 q.cells) := Lib.hid (by rw [hW4.out]; exact Blk.row (Blk.new w3 27 #[.int .i64 0, .int .i64 0, .int .i64 0, .int .u32 0, .int .i64 0, .int .i64 0, .int .i64 0, .int .i64 0, .int .i64 0, .int .i64 0, .int .i64 0, .slice none 0 0]) _ rfl)
    have HB4 := Lib.hid (HB1.out.trans (hB14.mono HB1.out.size))
    clear CK2 HB2 HG2 HB3 hB13 hB34 hB14 hW4 HQ1 HB1 HS1
    by_cases hen : en = 0
    · subst hen
      obtain ⟨ad6, cap6, rfl, hd6, hn6⟩ := HK3.out rfl
      have hZ := HZ.out
      rw [if_pos rfl] at hZ
      subst hZ
      have HD := Lib.hid (rd_setRow (es := (memP P ad6 cap6).cells) (hd6.below HB34.out) HQ4.out)
      have HN := Lib.hid hn6
      clear hd6 hn6 HK3 HZ
      go_wp2_with (first
        | (refine load_pk rfl _ rfl w3.heap.size rfl (memP P ad6 cap6) HP4.out ?_)
        | (refine store_pk rfl _ _ rfl w.heap.size (memP P ad6 cap6) rfl rfl _ HQ4.out rfl ?_))
      exact bodyPost_ret (results_pk2 rfl _ _ w.heap.size (memP P ad6 cap6).cells _ rfl rfl (Blk.row HQ4.out _ rfl) rfl) rfl (by unfold DecP; exact ⟨ad6, cap6, rfl, Lib.hid (below_setRow HB4.out (Nat.le_refl _) _), HD, HN⟩)
    · have HN : ((en : Int) == 0) = false := by simp; omega
      have hZ := HZ.out
      rw [if_neg hen] at hZ
      subst hZ
      clear HK3 HZ
      go_wp2_with (refine store_pk rfl _ _ rfl w.heap.size zero rfl rfl _ HQ4.out rfl ?_)
      exact bodyPost_ret (results_pk2 rfl _ _ w.heap.size zero.cells _ rfl rfl (Blk.row HQ4.out _ rfl) rfl) rfl (by unfold DecP; exact ⟨none, 0, rfl, Lib.hid (below_setRow HB4.out (Nat.le_refl _) _), Lib.hid (.inl rfl), Lib.hid (fun _ _ => rfl)⟩)
  · have hE : deE l = beE l := by rw [deE_be, if_pos hb]
    have hP : deP l = zero := by unfold deP; rw [if_neg (by rw [hE]; exact hb)]
    rw [hE, hP]
    obtain ⟨n, hbn⟩ : ∃ n, beE l = n := ⟨_, rfl⟩
    rw [hbn] at hb CB ⊢
    have HN : ((n : Int) == 0) = false := by simp; omega
    clear hr hT hE hP hlen hn hbn
    go_enter Tryz.func10, Tryz.ntmps10
    go_upto_region 1 with fail
    rw [← hwb.out]
    go_wp2_with fail
    refine (CB.out).mono ?_; rintro e w1 ⟨rfl, hB1⟩
    have HB1 := Lib.hid hB1
    clear hB1
    have HQ1 := Lib.hid (HX.out.2.below HB1.out)
    go_wp2_with (refine store_pk rfl _ _ rfl w.heap.size zero rfl rfl _ HQ1.out rfl ?_)
    exact bodyPost_ret (results_pk2 rfl _ _ w.heap.size zero.cells _ rfl rfl (Blk.row HQ1.out _ rfl) rfl) rfl (by unfold DecP; exact ⟨none, 0, rfl, Lib.hid (below_setRow (HX.out.1.trans (HB1.out.mono HX.out.1.size)) (Nat.le_refl _) _), Lib.hid (.inl rfl), Lib.hid (fun _ _ => rfl)⟩)
end Go.Proofs.YtanfnhgaooafeaaGreatDoor.Sea
