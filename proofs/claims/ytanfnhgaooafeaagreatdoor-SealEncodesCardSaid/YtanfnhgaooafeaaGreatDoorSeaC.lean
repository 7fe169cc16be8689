/- Contracts (layer 14): Encode, Size. -/
import Derived.Test.YtanfnhgaooafeaaGreatDoorSeaB
import Derived.Test.YtanfnhgaooafeaaGreatDoorSeaN
import Derived.Test.YtanfnhgaooafeaaGreatDoorCrcX
import Derived.Test.YtanfnhgaooafeaaGreatDoorAttX
import Derived.Test.YtanfnhgaooafeaaGreatDoorChuX
import Derived.Test.YtanfnhgaooafeaaGreatDoorPulX
import Derived.Test.YtanfnhgaooafeaaGreatDoorDatY
namespace Go.Proofs.YtanfnhgaooafeaaGreatDoor.Sea
open Go.ChangeShapes Go.WideShapes Go.ChangeAt Go.RowKit Go.Deep
open Go.Proofs.YtanfnhgaooafeaaGreatDoor.Byt Go.Proofs.YtanfnhgaooafeaaGreatDoor.Key Go.Proofs.YtanfnhgaooafeaaGreatDoor.Buf Go.Proofs.YtanfnhgaooafeaaGreatDoor.Hed Go.Proofs.YtanfnhgaooafeaaGreatDoor.Dat Go.Proofs.YtanfnhgaooafeaaGreatDoor.BufM Go.Proofs.YtanfnhgaooafeaaGreatDoor.Pkt
set_option linter.unusedVariables false
set_option linter.unusedSimpArgs false
theorem puts_at (m : Nat) (p : Pk) (hm : 30 ≤ m) : putS m (0, []) p = (0, headB p) := by
  have hs := sev_len10 (un p.key.1) (un_lt _)
  have hx := fixB_len 4 (un p.key.2.2)
  unfold putS headB
  split
  · rw [Hed.wB [kb p.kind] (by simp; omega)]
    rw [Hed.wB [kb p.hops] (by simp; omega)]
    unfold wNum
    rw [Hed.wB (sev (un p.key.1)) (by simp; omega)]
    rw [Hed.wB [kb p.key.2.1] (by simp; omega)]
    unfold wFix
    rw [if_pos (by decide), show (4 : Int).toNat = 4 from rfl]
    rw [Hed.wB (fixB (un p.key.2.2) 4) (by simp; omega)]
    simp
  · rw [Hed.wB [kb p.kind] (by simp; omega)]
    simp
theorem puls_at (m : Nat) (l : List UInt8) (p : Pk) (h : l.length + 16 ≤ m) : Pul.pulS m (0, l) p = (0, l ++ Pul.pulB p) := by
  have e : ∀ x, (fixB x 8).length = 8 := fixB_len 8
  have hf : ∀ (t : List UInt8) x, t.length + 8 ≤ m → wFix m (0, t) x 8 = (0, t ++ fixB x 8) := fun t x ht => by
    unfold wFix
    rw [if_pos (by decide)]
    rw [Hed.wB _ (by show t.length + (fixB x 8).length ≤ m; rw [e]; omega)]
    rfl
  unfold Pul.pulS Pul.pulB
  by_cases h1 : p.kind = 1
  · rw [if_pos h1, if_pos h1, hf _ _ (by omega)]
  · rw [if_neg h1, if_neg h1]
    by_cases h2 : p.kind = 2
    · rw [if_pos h2, if_pos h2, hf _ _ (by omega), hf _ _ (by rw [List.length_append, e]; omega), List.append_assoc]
    · rw [if_neg h2, if_neg h2]
      unfold wNum
      rw [Hed.wB _ (by have := sev_len10 (un p.no) (un_lt _); omega)]
theorem dats_at (m : Nat) (l : List UInt8) (b : List UInt8) (h : l.length + 10 + b.length ≤ m) (hb : b.length ≤ 1024) : wBytes m (0, l) b = (0, l ++ (sev b.length ++ b)) := by
  have := sev_len10 b.length (by omega)
  unfold wBytes wNum
  rw [Hed.wB _ (by omega), Hed.wB _ (by rw [List.length_append]; omega), List.append_assoc]
theorem atts_at (m : Nat) (l : List UInt8) (x : Nat) (h : l.length + 10 ≤ m) (hx : x < 18446744073709551616) : wNum m (0, l) x = (0, l ++ sev x) := by
  have := sev_len10 x hx
  unfold wNum
  rw [Hed.wB _ (by omega)]
theorem chus_at (m : Nat) (l : List UInt8) (p : Pk) (h : l.length + 23 + p.body.length ≤ m) (hb : p.body.length ≤ 1024) : Chu.chuS m (0, l) p = (0, l ++ Chu.chuB p) := by
  have h1 := sev_len10 (un p.no) (un_lt _)
  unfold Chu.chuS Chu.chuB
  rw [atts_at m l _ (by omega) (un_lt _), Hed.wB _ (by simp only [List.length_append, List.length_cons, List.length_nil]; omega),
    dats_at m _ _ (by simp only [List.length_append, List.length_cons, List.length_nil]; omega) hb]
  simp only [List.append_assoc]
/-- A writer beside a packet's box and what its kind has. -/
structure ES (w : World) (bp br : Nat) (p : Pk) (cs : Array Value) (g : Nat) (s : Int × List UInt8) (W : World) (row : Option Nat) : Prop where
  wr : WR W g g (1096 : Int).toNat s row
  box : Blk W bp 27 p.cells
  rst : Blk W br 42 cs
  lt1 : bp < g
  lt2 : br < g
  rd : RdB W p.ad p.body
  far : p.body ≠ [] → ∀ b o, p.ad = some ⟨b, o, none⟩ → b < g
  below : Below w.heap.size w W
  le : w.heap.size ≤ g
theorem ES.next {w : World} {bp br : Nat} {p : Pk} {cs : Array Value} {g : Nat} {s s' : Int × List UInt8} {W : World} {row : Option Nat} (h : ES w bp br p cs g s W row) {e : Ending} {w' : World} (hp : WPost W g g (1096 : Int).toNat row s' e w') :
    e = .returned (.tuple #[]) ∧ ∃ row', Hid (ES w bp br p cs g s' w' row') := by
  obtain ⟨rfl, row', hw, hs⟩ := hp
  exact ⟨rfl, row', Lib.hid ⟨hw, h.box.below2 hs.below h.lt1, h.rst.below2 hs.below h.lt2, h.lt1, h.lt2, rd_kept h.rd (fun hl b o e _ => hs.below.block b (h.far hl b o e)), h.far, h.below.trans (hs.below.mono h.le), h.le⟩⟩
theorem ES.sep {w : World} {bp br : Nat} {p : Pk} {cs : Array Value} {g : Nat} {s : Int × List UInt8} {W : World} {row : Option Nat} (h : ES w bp br p cs g s W row) : p.body ≠ [] → ∀ b o, p.ad = some ⟨b, o, none⟩ → b ≠ g ∧ some b ≠ row := by
  intro hl b o e
  have h1 := h.far hl b o e
  refine ⟨by omega, fun hr => ?_⟩
  obtain ⟨v, -, ho, hv⟩ := h.wr.mem
  have := (own_at ho (hv.trans hr.symm)).1
  omega
def EncPost (p : Pk) (w : World) (e : Ending) (w' : World) : Prop :=
  ∃ ad cap, e = .returned (.tuple #[.slice ad (Crc.sealB (inB p)).length cap, .int .i64 0]) ∧ Hid (OwnB w' w.heap.size (.slice ad (Crc.sealB (inB p)).length cap) (Crc.sealB (inB p))) ∧ Hid (Below w.heap.size w w')
/-- How what is behind is written. -/
def PutAt (p : Pk) (fp : Nat) : Prop := ∀ (W : World) (g : Nat) (row : Option Nat), WR W g g (1096 : Int).toNat (0, headB p) row → RdB W p.ad p.body → (p.body ≠ [] → ∀ b o, p.ad = some ⟨b, o, none⟩ → b ≠ g ∧ some b ≠ row) →
  Calls Tryz.prog fp #[.pointer (some ⟨g, 0, none⟩), pval p] W (WPost W g g (1096 : Int).toNat row (0, inB p))
set_option maxRecDepth 100000 in
set_option maxHeartbeats 2000000 in
theorem enc_fn (p : Pk) (fg fp fr : Nat) (w : World) (CR : ∀ W, Calls Tryz.prog 13 #[.int .i64 p.kind] W (RPs (fcs fg fp fr) true W))
    (eg : ∀ args w, (callFunc fg args).run Tryz.prog w = .ok (.enter fg args) w) (ep : ∀ args w, (callFunc fp args).run Tryz.prog w = .ok (.enter fp args) w)
    (Cg : ∀ W, Below w.heap.size w W → Calls Tryz.prog fg #[pval p] W fun e w' => e = .returned (.bool true) ∧ Below W.heap.size W w')
    (Cp : PutAt p fp) (hr : RdB w p.ad p.body) (hlen : (inB p).length ≤ 1070) (hT : Crc.Tabs w) :
    Calls Tryz.prog 5 #[pval p] w (EncPost p w) := by
  obtain ⟨wb, hwb⟩ : ∃ wb, Hid (wb = w.alloc (.cells p.cells 27)) := ⟨_, Lib.hid rfl⟩
  have HX := Lib.hid (one_box w wb _ _ hwb.out)
  have hk : wb.cell? ⟨w.heap.size, 0, none⟩ = some (.int .i64 p.kind) := HX.out.2.cell 0
  have CR := Lib.hid CR
  have CG := Lib.hid Cg
  have CN := Lib.hid (fun W => Buf.new_any 1096 (by omega) W)
  have HO : Hid ((fcs fg fp fr).all (·.oneCell') = true) := Lib.hid (by simp [fcs, Value.oneCell'])
  have CH : Hid (∀ W row bp br cs g, ES w bp br p cs g (0, []) W row → Calls Tryz.prog 15 #[.pointer (some ⟨g, 0, none⟩), pval p] W fun e w' => e = .returned (.tuple #[]) ∧ ∃ row', Hid (ES w bp br p cs g (0, headB p) w' row')) := Lib.hid (fun W row bp br cs g h => by
    have := hput_any p g g (1096 : Int).toNat (0, []) row W h.wr (by simp)
    rw [puts_at _ p (by decide)] at this
    exact this.mono fun e w' hp => h.next hp)
  have CP : Hid (∀ W row bp br cs g, ES w bp br p cs g (0, headB p) W row → Calls Tryz.prog fp #[.pointer (some ⟨g, 0, none⟩), pval p] W fun e w' => e = .returned (.tuple #[]) ∧ ∃ row', Hid (ES w bp br p cs g (0, inB p) w' row')) := Lib.hid (fun W row bp br cs g h => (Cp W g row h.wr h.rd h.sep).mono fun e w' hp => h.next hp)
  have CD : Hid (∀ W row bp br cs g, ES w bp br p cs g (0, inB p) W row → Calls Tryz.prog 16 #[.pointer (some ⟨g, 0, none⟩)] W (fun e w2 => ∃ ad cap, e = .returned (.tuple #[.slice ad (inB p).length cap, .int .i64 0]) ∧ Hid (OwnB w2 W.heap.size (.slice ad (inB p).length cap) (inB p)) ∧ Hid (Below w.heap.size w w2))) := Lib.hid (fun W row bp br cs g h => (Buf.done_any g g (1096 : Int).toNat _ row W h.wr (by simp only; omega)).mono fun e w2 hx => by
    obtain ⟨v, rfl, ho, hB⟩ := hx
    simp only [if_true] at ho
    obtain ⟨ad, cap, rfl, _⟩ := Own.shape ho
    exact ⟨ad, cap, rfl, Lib.hid ho, Lib.hid (h.below.trans (hB.mono h.below.size))⟩)
  have CS : Hid (∀ W base ad cap, OwnB W base (.slice ad (inB p).length cap) (inB p) → Below w.heap.size w W → Calls Tryz.prog 17 #[.slice ad (inB p).length cap] W (BytesPost (Crc.sealB (inB p)) W)) := Lib.hid (fun W base ad cap ho hB => by
    obtain ⟨p1, p2, p3, -⟩ := ho.pos
    unfold maxLen at p2
    exact Crc.seal_any ad (inB p).length cap (inB p) W rfl (by omega) ho.rd.1 p3 p1 (hT.below hB))
  have HR := Lib.hid hr
  clear Cg Cp hr hT
  unfold EncPost
  generalize Crc.sealB (inB p) = sb at *
  generalize inB p = ib at *
  unfold fcs at CR HO
  unfold RPs at CR
  unfold pval
  go_enter Tryz.func5, Tryz.ntmps5
  go_upto_region 1 with fail
  rw [← hwb.out]
  go_wp2_with fail
  refine (CR.out _).mono ?_; rintro e w1 ⟨rfl, hB1⟩
  have HB1 := Lib.hid hB1
  clear hB1
  go_upto_region 2 with (refine wpList_store_row rfl 42 _ _ rfl w1.heap.size #[.func (.func fg) #[] #[], .func (.func fp) #[] #[], .func (.func fr) #[] #[]] rfl rfl 42 #[.nilFunc, .nilFunc, .nilFunc] (heap_alloc_last w1 _) infoRest rfl HO.out ?_)
  obtain ⟨W2, hW2⟩ : ∃ W2, Hid (W2 = (w1.alloc (.cells #[.nilFunc, .nilFunc, .nilFunc] 42)).setRow w1.heap.size #[.func (.func fg) #[] #[], .func (.func fp) #[] #[], .func (.func fr) #[] #[]]) := ⟨_, Lib.hid rfl⟩
  rw [← hW2.out]
  have HB2 : Hid (Below wb.heap.size wb W2) := Lib.hid (by rw [hW2.out]; exact below_setRow (HB1.out.alloc HB1.out.size _) HB1.out.size _)
  have HR2 : Hid (Blk W2 w1.heap.size 42 #[.func (.func fg) #[] #[], .func (.func fp) #[] #[], .func (.func fr) #[] #[]]) := Lib.hid (by rw [hW2.out]; exact Blk.row (Blk.new w1 _ _) _ rfl)
  have k0 : W2.cell? ⟨w1.heap.size, 0, none⟩ = some (.func (.func fg) #[] #[]) := HR2.out.cell 0
  have HP2 := Lib.hid (HX.out.2.below HB2.out)
  have HW2 : Hid (Below w.heap.size w W2) := Lib.hid (HX.out.1.trans (HB2.out.mono HX.out.1.size))
  have CG2 := Lib.hid (CG.out W2 HW2.out)
  clear hk
  go_upto_region 4 with (first
    | (refine load_pk rfl _ rfl w.heap.size rfl p HP2.out ?_)
    | (go_at_fn fg; refine CG2.out.mono ?_; rintro e w3 ⟨rfl, hB3⟩))
  have HE3 : Hid (∀ W row, WR W w3.heap.size w3.heap.size (1096 : Int).toNat (0, []) row → Below w3.heap.size w3 W → ES w w.heap.size w1.heap.size p #[.func (.func fg) #[] #[], .func (.func fp) #[] #[], .func (.func fr) #[] #[]] w3.heap.size (0, []) W row) := Lib.hid (fun W row hw hB => by
    have hp3 := HP2.out.below hB3
    have hr3 := HR2.out.below hB3
    have hb3 := HW2.out.trans (hB3.mono HW2.out.size)
    refine ⟨hw, hp3.below hB, hr3.below hB, hp3.lt, hr3.lt, HR.out.below (hb3.trans (hB.mono hb3.size)), fun hl b o e => ?_, hb3.trans (hB.mono hb3.size), hb3.size⟩
    rcases HR.out with h | ⟨b', off, e', hc⟩
    · exact absurd h hl
    · rw [e] at e'
      cases e'
      have h1 := hc 0 (List.length_pos_iff.2 hl)
      have h2 := Crc.cell_lt h1
      simp only at h2
      have := hb3.size
      omega)
  clear k0 hB3 CR CG CG2 HP2 HR2 HW2 HB2
  go_wp2_with fail
  refine (CN.out _).mono ?_; rintro e w4 ⟨rfl, hw4, hB4, -⟩
  have HE4 := Lib.hid (HE3.out w4 none hw4 hB4)
  clear hw4 hB4 HE3
  go_wp2_with (refine load_pk rfl _ rfl w.heap.size rfl p HE4.out.box ?_)
  refine (CH.out _ _ _ _ _ _ HE4.out).mono ?_; rintro e w5 ⟨rfl, row5, HE5⟩
  have k1 : w5.cell? ⟨w1.heap.size, 1, none⟩ = some (.func (.func fp) #[] #[]) := HE5.out.rst.cell 1
  have CP5 := Lib.hid (CP.out _ _ _ _ _ _ HE5.out)
  clear HE4 CH CP
  go_upto_region 7 with (first
    | (refine load_pk rfl _ rfl w.heap.size rfl p HE5.out.box ?_)
    | (go_at_fn fp; refine CP5.out.mono ?_; rintro e w6 ⟨rfl, row6, HE6⟩))
  clear k1 CP5 HE5
  go_wp2_with fail
  refine (CD.out _ _ _ _ _ _ HE6.out).mono ?_; rintro e w7 ⟨ad7, cap7, rfl, HO7, HB7⟩
  have CS7 := Lib.hid (CS.out w7 _ ad7 cap7 HO7.out HB7.out)
  go_wp2_with fail
  refine (CS7.out).mono ?_; rintro e w8 ⟨ad8, cap8, rfl, ho8, hb8⟩
  have HO8 := Lib.hid (Own.mono ho8 HB7.out.size)
  have HB8 := Lib.hid (HB7.out.trans (hb8.mono HB7.out.size))
  clear ho8 hb8
  go_wp2_with fail
  go_ret2
  exact ⟨ad8, cap8, rfl, HO8, HB8⟩
/-- What a packet that may not be gets. -/
def NoPost (w : World) (e : Ending) (w' : World) : Prop := e = .returned (.tuple #[.slice none 0 0, .int .i64 1]) ∧ Below w.heap.size w w'
set_option maxRecDepth 100000 in
set_option maxHeartbeats 2000000 in
theorem enc_bad (p : Pk) (fg fp fr : Nat) (w : World) (CR : ∀ W, Calls Tryz.prog 13 #[.int .i64 p.kind] W (RPs (fcs fg fp fr) true W))
    (eg : ∀ args w, (callFunc fg args).run Tryz.prog w = .ok (.enter fg args) w) (Cg : ∀ W, Below w.heap.size w W → Calls Tryz.prog fg #[pval p] W fun e w' => e = .returned (.bool false) ∧ Below W.heap.size W w') :
    Calls Tryz.prog 5 #[pval p] w (NoPost w) := by
  obtain ⟨wb, hwb⟩ : ∃ wb, Hid (wb = w.alloc (.cells p.cells 27)) := ⟨_, Lib.hid rfl⟩
  have HX := Lib.hid (one_box w wb _ _ hwb.out)
  have hk : wb.cell? ⟨w.heap.size, 0, none⟩ = some (.int .i64 p.kind) := HX.out.2.cell 0
  have CR := Lib.hid CR
  have CG := Lib.hid Cg
  have HO : Hid ((fcs fg fp fr).all (·.oneCell') = true) := Lib.hid (by simp [fcs, Value.oneCell'])
  clear Cg
  unfold NoPost
  unfold fcs at CR HO
  unfold RPs at CR
  unfold pval
  go_enter Tryz.func5, Tryz.ntmps5
  go_upto_region 1 with fail
  rw [← hwb.out]
  go_wp2_with fail
  refine (CR.out _).mono ?_; rintro e w1 ⟨rfl, hB1⟩
  have HB1 := Lib.hid hB1
  clear hB1
  go_upto_region 2 with (refine wpList_store_row rfl 42 _ _ rfl w1.heap.size #[.func (.func fg) #[] #[], .func (.func fp) #[] #[], .func (.func fr) #[] #[]] rfl rfl 42 #[.nilFunc, .nilFunc, .nilFunc] (heap_alloc_last w1 _) infoRest rfl HO.out ?_)
  obtain ⟨W2, hW2⟩ : ∃ W2, Hid (W2 = (w1.alloc (.cells #[.nilFunc, .nilFunc, .nilFunc] 42)).setRow w1.heap.size #[.func (.func fg) #[] #[], .func (.func fp) #[] #[], .func (.func fr) #[] #[]]) := ⟨_, Lib.hid rfl⟩
  rw [← hW2.out]
  have HB2 : Hid (Below wb.heap.size wb W2) := Lib.hid (by rw [hW2.out]; exact below_setRow (HB1.out.alloc HB1.out.size _) HB1.out.size _)
  have HR2 : Hid (Blk W2 w1.heap.size 42 #[.func (.func fg) #[] #[], .func (.func fp) #[] #[], .func (.func fr) #[] #[]]) := Lib.hid (by rw [hW2.out]; exact Blk.row (Blk.new w1 _ _) _ rfl)
  have k0 : W2.cell? ⟨w1.heap.size, 0, none⟩ = some (.func (.func fg) #[] #[]) := HR2.out.cell 0
  have HP2 := Lib.hid (HX.out.2.below HB2.out)
  have HW2 : Hid (Below w.heap.size w W2) := Lib.hid (HX.out.1.trans (HB2.out.mono HX.out.1.size))
  have CG2 := Lib.hid (CG.out W2 HW2.out)
  clear hk
  go_wp2_with (first
    | (refine load_pk rfl _ rfl w.heap.size rfl p HP2.out ?_)
    | (go_at_fn fg; refine CG2.out.mono ?_; rintro e w3 ⟨rfl, hB3⟩))
  go_ret2
  exact ⟨rfl, HW2.out.trans (hB3.mono HW2.out.size)⟩
set_option maxRecDepth 100000 in
set_option maxHeartbeats 2000000 in
theorem enc_none (p : Pk) (w : World) (CR : ∀ W, Calls Tryz.prog 13 #[.int .i64 p.kind] W (RPs #[.nilFunc, .nilFunc, .nilFunc] false W)) :
    Calls Tryz.prog 5 #[pval p] w (NoPost w) := by
  obtain ⟨wb, hwb⟩ : ∃ wb, Hid (wb = w.alloc (.cells p.cells 27)) := ⟨_, Lib.hid rfl⟩
  have HX := Lib.hid (one_box w wb _ _ hwb.out)
  have hk : wb.cell? ⟨w.heap.size, 0, none⟩ = some (.int .i64 p.kind) := HX.out.2.cell 0
  have CR := Lib.hid CR
  have HO : Hid (Array.all (#[.nilFunc, .nilFunc, .nilFunc] : Array Value) (·.oneCell') = true) := Lib.hid (by simp [Value.oneCell'])
  unfold NoPost
  unfold RPs at CR
  unfold pval
  go_enter Tryz.func5, Tryz.ntmps5
  go_upto_region 1 with fail
  rw [← hwb.out]
  go_wp2_with fail
  refine (CR.out _).mono ?_; rintro e w1 ⟨rfl, hB1⟩
  go_upto_region 2 with (refine wpList_store_row rfl 42 _ _ rfl w1.heap.size #[.nilFunc, .nilFunc, .nilFunc] rfl rfl 42 #[.nilFunc, .nilFunc, .nilFunc] (heap_alloc_last w1 _) infoRest rfl HO.out ?_)
  go_wp2_with fail
  go_ret2
  exact ⟨rfl, HX.out.1.trans ((below_setRow (hB1.alloc hB1.size _) hB1.size _).mono HX.out.1.size)⟩
/-- Encode of a packet that may not be. -/
theorem encode_no (p : Pk) (w : World) (hr : RdB w p.ad p.body) (h : seaG p = false) :
    Calls Tryz.prog 5 #[pval p] w (NoPost w) := by
  by_cases h4 : p.kind = 4
  · rw [seaG_4 h4] at h
    exact enc_bad p _ _ _ w (fun W => rest_4 p.kind h4 W) (enters_of Tryz.func34 (by kernel_rfl) rfl) (fun W hW => by have := dgood_any p W (hr.below hW); rwa [h] at this)
  · by_cases h5 : p.kind = 5
    · rw [seaG_5 h5] at h
      exact enc_bad p _ _ _ w (fun W => rest_5 p.kind h5 W) (enters_of Tryz.func37 (by kernel_rfl) rfl) (fun W hW => by have := Att.agood_any p W (hr.below hW); rwa [h] at this)
    · by_cases h6 : p.kind = 6
      · rw [seaG_6 h6] at h
        exact enc_bad p _ _ _ w (fun W => rest_6 p.kind h6 W) (enters_of Tryz.func40 (by kernel_rfl) rfl) (fun W hW => by have := Chu.cgood_any p W; rwa [h] at this)
      · by_cases h1 : p.kind = 1 ∨ p.kind = 2 ∨ p.kind = 3
        · rw [seaG_123 h4 h5 h6] at h
          exact enc_bad p _ _ _ w (fun W => rest_123 p.kind h1 W) (enters_of Tryz.func31 (by kernel_rfl) rfl) (fun W hW => by have := Pul.pgood_any p W (hr.below hW); rwa [h] at this)
        · exact enc_none p w (fun W => rest_none p.kind (by omega) W)
/-- Encode of a good packet. -/
theorem encode_ok (p : Pk) (w : World) (h : seaG p = true) (hr : RdB w p.ad p.body) (hn : p.kind = 4 ∨ p.kind = 6 → p.ad = none → p.cap = 0) (hT : Crc.Tabs w) :
    Calls Tryz.prog 5 #[pval p] w (EncPost p w) := by
  have hl := (inB_len h).2
  have hh := (headB_len p).2
  have ht := tB_len h
  have hm : (1096 : Int).toNat = 1096 := rfl
  by_cases h4 : p.kind = 4
  · have hg := h
    rw [seaG_4 h4] at hg
    have hb := good_len hg
    refine enc_fn p _ _ _ w (fun W => rest_4 p.kind h4 W) (enters_of Tryz.func34 (by kernel_rfl) rfl) (enters_of Tryz.func35 (by kernel_rfl) rfl) (fun W hW => by have := dgood_any p W (hr.below hW); rwa [hg] at this) (fun W g row hw hr2 hs => ?_) hr hl hT
    have := dput_any p g g (1096 : Int).toNat (0, headB p) row W hw (by simp only; omega) hr2 (hn (.inl h4)) hs
    rw [dats_at _ _ _ (by omega) hb] at this
    unfold inB tB
    rw [if_pos h4]
    exact this
  · by_cases h5 : p.kind = 5
    · have hg := h
      rw [seaG_5 h5] at hg
      refine enc_fn p _ _ _ w (fun W => rest_5 p.kind h5 W) (enters_of Tryz.func37 (by kernel_rfl) rfl) (enters_of Tryz.func38 (by kernel_rfl) rfl) (fun W hW => by have := Att.agood_any p W (hr.below hW); rwa [hg] at this) (fun W g row hw hr2 hs => ?_) hr hl hT
      have := Att.aput_any p g g (1096 : Int).toNat (0, headB p) row W hw (by simp only; omega)
      rw [atts_at _ _ _ (by omega) (un_lt _)] at this
      unfold inB tB
      rw [if_neg h4, if_pos h5]
      exact this
    · by_cases h6 : p.kind = 6
      · have hg := h
        rw [seaG_6 h6] at hg
        obtain ⟨-, -, -, -, -, hb, -, -⟩ := (Chu.chuG_iff p).1 hg
        refine enc_fn p _ _ _ w (fun W => rest_6 p.kind h6 W) (enters_of Tryz.func40 (by kernel_rfl) rfl) (enters_of Tryz.func41 (by kernel_rfl) rfl) (fun W hW => by have := Chu.cgood_any p W; rwa [hg] at this) (fun W g row hw hr2 hs => ?_) hr hl hT
        have := Chu.cput_any p g g (1096 : Int).toNat (0, headB p) row W hw (by simp only; omega) hr2 (hn (.inr h6)) hs
        rw [chus_at _ _ _ (by omega) (by omega)] at this
        unfold inB tB
        rw [if_neg h4, if_neg h5, if_pos h6]
        exact this
      · have hk := gd_kind (seaG_gd h)
        have h1 : p.kind = 1 ∨ p.kind = 2 ∨ p.kind = 3 := by omega
        have hg := h
        rw [seaG_123 h4 h5 h6] at hg
        refine enc_fn p _ _ _ w (fun W => rest_123 p.kind h1 W) (enters_of Tryz.func31 (by kernel_rfl) rfl) (enters_of Tryz.func32 (by kernel_rfl) rfl) (fun W hW => by have := Pul.pgood_any p W (hr.below hW); rwa [hg] at this) (fun W g row hw hr2 hs => ?_) hr hl hT
        have := Pul.pput_any p g g (1096 : Int).toNat (0, headB p) row W ((Pul.kk_iff _).2 h1) hw (by simp only; omega)
        rw [puls_at _ _ _ (by omega)] at this
        unfold inB tB
        rw [if_neg h4, if_neg h5, if_neg h6]
        exact this
/-- How long a frame is. -/
def sizeN (p : Pk) : Nat := if seaG p = true then (Crc.sealB (inB p)).length else 0
set_option maxRecDepth 100000 in
set_option maxHeartbeats 2000000 in
theorem size_any (p : Pk) (w : World) (hr : RdB w p.ad p.body) (hn : p.kind = 4 ∨ p.kind = 6 → p.ad = none → p.cap = 0) (hT : Crc.Tabs w) :
    Calls Tryz.prog 8 #[pval p] w fun e w' => e = .returned (.int .i64 ((sizeN p : Nat) : Int)) ∧ Below w.heap.size w w' := by
  obtain ⟨wb, hwb⟩ : ∃ wb, Hid (wb = w.alloc (.cells p.cells 27)) := ⟨_, Lib.hid rfl⟩
  have HX := Lib.hid (one_box w wb _ _ hwb.out)
  have CE : Hid (Calls Tryz.prog 5 #[pval p] wb fun e w' => ∃ ad cap er, e = .returned (.tuple #[.slice ad (sizeN p) cap, .int .i64 er]) ∧ Below wb.heap.size wb w') := Lib.hid (by
    unfold sizeN
    cases h : seaG p with
    | true =>
      rw [if_pos rfl]
      refine (encode_ok p wb h (hr.below HX.out.1) hn (hT.below HX.out.1)).mono fun e w' hp => ?_
      obtain ⟨ad, cap, rfl, -, hB⟩ := hp
      exact ⟨ad, cap, 0, rfl, hB.out⟩
    | false =>
      rw [if_neg (by decide)]
      refine (encode_no p wb (hr.below HX.out.1) h).mono fun e w' hp => ?_
      exact ⟨none, 0, 1, hp.1, hp.2⟩)
  generalize sizeN p = n at *
  clear hr hn hT
  unfold pval
  go_enter Tryz.func8, Tryz.ntmps8
  go_upto_region 1 with fail
  rw [← hwb.out]
  go_wp2_with (refine load_pk rfl _ rfl w.heap.size rfl p HX.out.2 ?_)
  refine (CE.out).mono ?_; rintro e w1 ⟨ad, cap, er, rfl, hB1⟩
  go_wp2_with fail
  go_ret
  exact ⟨rfl, HX.out.1.trans (hB1.mono HX.out.1.size)⟩
end Go.Proofs.YtanfnhgaooafeaaGreatDoor.Sea
