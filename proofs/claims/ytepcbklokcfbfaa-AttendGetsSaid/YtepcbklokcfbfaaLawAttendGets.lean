/- Of any bytes, by any kind, what stands behind the head is read as the document says, or it is told what is wrong first. -/
import Derived.Test.YtepcbklokcfbfaaRows
import Derived.WalkKit
import Derived.ProofKit
import Derived.OpenShut
import Derived.ShutString
import Derived.ChangeOld
import Derived.Below
import Derived.Test.YtepcbklokcfbfaaAttK
import Derived.Test.YtepcbklokcfbfaaPulN
import Derived.Test.YtepcbklokcfbfaaHedO
import Derived.Deep.RegionHeldLaw
import Derived.Deep.Cut
import Derived.Test.YtepcbklokcfbfaaAttN
namespace Go.Proofs.Ytepcbklokcfbfaa.lawAttendGets
open Go.ChangeShapes Go.WideShapes Go.ChangeAt Go.RowKit
open Go.ChangeMaps (open_string shut_string)
set_option linter.unusedVariables false

theorem own : ownKnob Try.prog.godebug = none := by kernel_rfl
theorem laidOut : laidOutB Try.prog = true := by kernel_rfl

/-- What the walk is told of a slice of integers that came in. -/
def IsRow (k : IntKind) (w : World) (a : Option Addr) (len cap : Nat) (zs : List Int) : Prop :=
  (a = none ∧ len = 0 ∧ cap = 0 ∧ zs = []) ∨
  ∃ x, a = some x ∧ len ≤ cap ∧ cap ≤ maxLen ∧ zs.length = cap ∧ (∀ i, i < zs.length → w.cell? (x.add i) = some (.int k (zs.getD i 0))) ∧ ∀ n ∈ zs, (Lit.int k n).wf = true

/-! The walk: the Go text returns true and writes nothing that was there. -/
set_option linter.unusedSimpArgs false in
set_option maxRecDepth 100000 in
set_option maxHeartbeats 4000000 in
theorem walk (a0 : Option Addr) (len0 cap0 : Nat) (z0 : List Int) (a1 : Hed.Pk) (w : World) (w0 : IsRow .u8 w a0 len0 cap0 z0) (w1 : Pul.Okx w a1) (s1 : a1.cap ≤ 140737488351232) :
    Calls Try.prog 5 #[.slice a0 len0 cap0, Hed.pval a1] w fun e w' => e = .returned (.bool true) ∧ Below w.heap.size w w' := by
  obtain ⟨x0, HX0, HXL0, hlc0, hcm0, HXN0, hxs0⟩ := Byt.rd_of_row w0
  clear w0 hxs0
  have hlen0 := HXL0.out
  have hr0 := w1.ok.rd
  have hn0 := w1.ok.nil
  have hl0 := w1.ok.le
  have hm0 := w1.ok.max
  have hst0 := w1.stamp
  have hva0 := w1.value
  obtain ⟨wb, hwb⟩ : ∃ wb, Hid (wb = w.alloc (.cells (Hed.Pk.cells a1) 27)) := ⟨_, Lib.hid rfl⟩
  have HB0 := Lib.hid (Hed.one_box w wb _ _ hwb.out).1
  have HC := Lib.hid (Hed.pk_cells w wb a1 hwb.out)
  have HR : Hid (∀ W, Below wb.heap.size wb W → Byt.RdB W a1.ad a1.body) := Lib.hid (fun W hW => hr0.below (HB0.out.trans (hW.mono HB0.out.size)))
  have CW : Hid (∀ W, Below wb.heap.size wb W → Calls Try.prog 13 #[] W fun e w' => e = .returned (.bool true) ∧ Below wb.heap.size wb w') := Lib.hid (fun W hW => (Att.aworks_any W).mono fun e w' h => ⟨h.1, hW.trans (h.2.mono hW.size)⟩)
  have hBa : Below wb.heap.size wb (wb.alloc (.cells #[] 5)) := (Below.refl _ _).alloc (Nat.le_refl _) _
  have HO := Lib.hid (Buf.own_zero wb)
  have HRD := Lib.hid ((HX0.out.below (HB0.out.trans (hBa.mono HB0.out.size))).take 60)
  have HBz := Lib.hid hBa.size
  have HBa := Lib.hid hBa
  have HE : Hid ((min (len0 : Int) 60).toNat = (x0.take 60).length) := Lib.hid (by rw [List.length_take]; omega)
  have HY : Hid ((x0.take 60).length ≤ 60) := Lib.hid (by rw [List.length_take]; omega)
  have hin : (len0 : Int) ≤ (cap0 : Int) ∧ (cap0 : Int) ≤ 9223372036854775807 := by omega
  obtain ⟨hin1, hin2⟩ := hin
  clear HX0 HXL0 hlen0 hBa w1 hst0 hva0 hr0
  generalize x0.take 60 = y0 at *
  unfold Hed.Pk.cells at hwb
  unfold Hed.pval Hed.Pk.cells
  go_enter Try.func5, Try.ntmps5
  go_upto_region 1 with fail
  rw [← hwb.out]
  go_upto_region 2 with (at_builtin; refine Hed.app_step rfl _ _ rfl wb.heap.size (some ⟨wb.heap.size, 0, none⟩) 0 0 [] rfl HO.out a0 _ cap0 y0 rfl HE.out HRD.out HXN0.out (by have := HY.out; simp; omega) HBz.out ?_; intro l1 ad1 cap1 V1 hl1 ho1 hb1 _)
  have hl1e : l1 = y0 := by rw [hl1.out, List.nil_append]
  have HL1 : Hid (l1.length ≤ 60) := Lib.hid (by rw [hl1e]; exact HY.out)
  have HB1 := Lib.hid (HBa.out.trans (hb1.mono (Nat.le_refl _)))
  have CRd := Lib.hid (Buf.read_any ad1 l1.length cap1 l1 V1 rfl (by have := HL1.out; omega) ho1.rd.1 ho1.pos.2.2.1)
  have HS1 : Hid (Buf.RdS V1 V1.heap.size ad1 l1.length cap1 l1) := Lib.hid ⟨rfl, ho1.rd.1, Buf.own_lies ho1, ho1.pos.1, by have := ho1.pos.2.1; unfold maxLen at this; omega⟩
  clear HO HRD HBz hl1 hl1e ho1 hb1 HE HY HBa hwb hin1 hin2
  go_wp2_with fail
  refine (CRd.out).mono ?_; rintro e V2 ⟨g, rfl, hr2, hB2, hge2, hsz2⟩
  have HB2 := Lib.hid (HB1.out.trans (hB2.mono HB1.out.size))
  have HK2 := Lib.hid hB2
  have HG1 : Hid (V1.heap.size ≤ g) := Lib.hid hge2
  have HG0 : Hid (wb.heap.size ≤ g) := Lib.hid (Nat.le_trans HB1.out.size hge2)
  clear hB2 hge2 hsz2 CRd HB1
  obtain ⟨c0, c1, c2, c3, c4, c5, c6, c7, c8, c9, c10, c11⟩ := HC.out V2 HB2.out
  by_cases he : Att.atE l1 = 0
  · skip
    have CT : Hid (Calls Try.prog 19 #[.pointer (some ⟨g, 0, none⟩), .agg #[.int .i64 a1.kind, .int .i64 a1.key.1, .int .i64 a1.key.2.1, .int .u32 a1.key.2.2, .int .i64 a1.hops, .int .i64 a1.no, .int .i64 a1.to, .int .i64 a1.index, .int .i64 a1.total, .int .i64 a1.stamp, .int .i64 a1.value, .slice a1.ad a1.body.length a1.cap]] V2 fun e w' => ∃ ad cap, e = .returned (.tuple #[Hed.pval (Pkt.memP (Att.filA a1 l1) ad cap), .int .i64 0]) ∧ Hid (Byt.RdB w' ad a1.body) ∧ Hid (Buf.RR w' g (0, Att.rgR l1)) ∧ Hid (Buf.RStep V2 w' g)) := Lib.hid (Att.uaget_ok a1 g l1 V2 hr2 he (HR.out V2 HB2.out) hn0 hl0 (by omega))
    have CRg : Hid (∀ W, Below V1.heap.size V1 W → Calls Try.prog 21 #[.slice ad1 l1.length cap1, .agg #[.int .i64 a1.kind, .int .i64 a1.key.1, .int .i64 a1.key.2.1, .int .u32 a1.key.2.2, .int .i64 a1.hops, .int .i64 a1.no, .int .i64 a1.to, .int .i64 a1.index, .int .i64 a1.total, .int .i64 a1.stamp, .int .i64 a1.value, .slice a1.ad a1.body.length a1.cap]] W fun e w' => ∃ ad cap, e = .returned (.tuple #[Hed.pval (Att.filA a1 l1), .slice ad (Att.rgR l1).length cap, .int .i64 0]) ∧ Below W.heap.size W w') := Lib.hid (fun W hW => Att.draget_ok a1 ad1 l1.length cap1 V1.heap.size l1 W (HS1.out.kept fun b hb => hW.block b hb) hW.size he)
    obtain ⟨hx1, hx2, hx3⟩ := Att.fil_same a1 l1
    have CS : Hid (∀ W ad cap, Below wb.heap.size wb W → Byt.RdB W ad a1.body → Calls Try.prog 8 #[Hed.pval (Pkt.memP (Att.filA a1 l1) ad cap), Hed.pval (Att.filA a1 l1)] W fun e w' => e = .returned (.bool true) ∧ Below W.heap.size W w') := Lib.hid (fun W ad cap hW hr => by
      have := Hed.rsame_any (Pkt.memP (Att.filA a1 l1) ad cap) (Att.filA a1 l1) W (by show Byt.RdB W ad (Att.filA a1 l1).body; rw [hx3]; exact hr) (by rw [hx1, hx3]; exact HR.out W hW)
      rwa [show Hed.eqP (Pkt.memP (Att.filA a1 l1) ad cap) (Att.filA a1 l1) = true from Hed.eqP_self (Att.filA a1 l1)] at this)
    generalize Att.filA a1 l1 = qF at *
    generalize Att.rgR l1 = rest at *
    obtain ⟨kind2, ⟨t2, f2, s2⟩, hops2, no2, to2, index2, total2, stamp2, value2, adq, capq, body2⟩ := qF
    have HZ7 : Hid (∀ (W : World) (b : Nat) ad7 cap7, Buf.Blk W b 27 (Hed.Pk.cells ⟨kind2, (t2, f2, s2), hops2, no2, to2, index2, total2, stamp2, value2, ad7, cap7, body2⟩) → _ ∧ _) := Lib.hid (fun W b ad7 cap7 h => Hed.blk_cells h)
    unfold Pkt.memP Hed.pval Hed.Pk.cells at CT CS
    unfold Hed.pval Hed.Pk.cells at CRg
    unfold Hed.Pk.cells at HZ7
    obtain ⟨n2, hn2⟩ : ∃ n2, body2.length = n2 := ⟨_, rfl⟩
    simp only [hn2] at CT CRg CS HZ7
    clear hn2 hx1 hx2 hx3 he HS1 hr2
    go_wp2_with fail
    refine (CT.out).mono ?_; rintro e V3 ⟨ad7, cap7, rfl, HD3, HR3, HS3⟩
    have HB3 := Lib.hid (HB2.out.trans (HS3.out.below.mono HG0.out))
    have HK3 := Lib.hid (HK2.out.trans (HS3.out.below.mono HG1.out))
    clear c0 c1 c2 c3 c4 c5 c6 c7 c8 c9 c10 c11 CT HS3
    go_upto_region 4 with fail
    obtain ⟨W4, hW4⟩ : ∃ W4, Hid (W4 = V3.alloc (.cells #[.int .i64 kind2, .int .i64 t2, .int .i64 f2, .int .u32 s2, .int .i64 hops2, .int .i64 no2, .int .i64 to2, .int .i64 index2, .int .i64 total2, .int .i64 stamp2, .int .i64 value2, .slice ad7 n2 cap7] 27)) := ⟨_, Lib.hid rfl⟩
    rw [← hW4.out]
    have hX := Hed.one_box V3 W4 _ _ hW4.out
    have HB4 := Lib.hid (HB3.out.trans (hX.1.mono HB3.out.size))
    have HK4 := Lib.hid (HK3.out.trans (hX.1.mono HK3.out.size))
    have b4 := Lib.hid hX.2
    have HR4 := Lib.hid (HR3.out.kept hX.1)
    have HD4 := Lib.hid (HD3.out.below hX.1)
    clear hX hW4 HK3 HB3 HR3 HD3
    obtain ⟨c0, c1, c2, c3, c4, c5, c6, c7, c8, c9, c10, c11⟩ := HC.out W4 HB4.out
    go_wp2_with fail
    refine (CRg.out W4 HK4.out).mono ?_; rintro e V5 ⟨adr, capr, rfl, hB5⟩
    have HB5 := Lib.hid (HB4.out.trans (hB5.mono HB4.out.size))
    have b5 := Lib.hid (b4.out.below hB5)
    have HR5 := Lib.hid (HR4.out.kept hB5)
    have HD5 := Lib.hid (HD4.out.below hB5)
    clear c0 c1 c2 c3 c4 c5 c6 c7 c8 c9 c10 c11 CRg hB5 b4 HK4 HB4 HR4 HD4
    go_upto_region 5 with fail
    obtain ⟨W6, hW6⟩ : ∃ W6, Hid (W6 = V5.alloc (.cells #[.int .i64 kind2, .int .i64 t2, .int .i64 f2, .int .u32 s2, .int .i64 hops2, .int .i64 no2, .int .i64 to2, .int .i64 index2, .int .i64 total2, .int .i64 stamp2, .int .i64 value2, .slice adq n2 capq] 27)) := ⟨_, Lib.hid rfl⟩
    rw [← hW6.out]
    have hX := Hed.one_box V5 W6 _ _ hW6.out
    have HB6 := Lib.hid (HB5.out.trans (hX.1.mono HB5.out.size))
    have b6 := b5.out.below hX.1
    obtain ⟨d0, d1, d2, d3, d4, d5, d6, d7, d8, d9, d10, d11⟩ := HZ7.out _ _ _ _ b6
    obtain ⟨e0, e1, e2, e3, e4, e5, e6, e7, e8, e9, e10, e11⟩ := HZ7.out _ _ _ _ hX.2
    have HR6 := Lib.hid (HR5.out.kept hX.1)
    have CS6 := Lib.hid (CS.out W6 ad7 cap7 HB6.out (HD5.out.below hX.1))
    clear hX hW6 b6 b5 HB5 CS HZ7 HR5 HD5
    go_wp2_with fail
    refine (CS6.out).mono ?_; rintro e V7 ⟨rfl, hB7⟩
    have HB7 := Lib.hid (HB6.out.trans (hB7.mono HB6.out.size))
    have CL := Lib.hid (Buf.left_any g (0, rest) V7 (HR6.out.kept hB7))
    simp only at CL
    have hll : ((rest.length : Int) == (rest.length : Int)) = true := by simp
    generalize rest.length = rl at *
    clear hB7 d0 d1 d2 d3 d4 d5 d6 d7 d8 d9 d10 d11 e0 e1 e2 e3 e4 e5 e6 e7 e8 e9 e10 e11 CS6
    go_wp2_with fail
    refine (CL.out).mono ?_; rintro e V8 ⟨rfl, rfl⟩
    go_wp2_with fail
    refine (CW.out _ HB7.out).mono ?_; rintro e V9 ⟨rfl, hB9⟩
    have HB9 := Lib.hid hB9
    clear hB9
    go_wp2_with fail
    go_ret
    exact ⟨rfl, HB0.out.trans (HB9.out.mono HB0.out.size)⟩
  · skip
    have CT : Hid (Calls Try.prog 19 #[.pointer (some ⟨g, 0, none⟩), .agg #[.int .i64 a1.kind, .int .i64 a1.key.1, .int .i64 a1.key.2.1, .int .u32 a1.key.2.2, .int .i64 a1.hops, .int .i64 a1.no, .int .i64 a1.to, .int .i64 a1.index, .int .i64 a1.total, .int .i64 a1.stamp, .int .i64 a1.value, .slice a1.ad a1.body.length a1.cap]] V2 fun e w' => e = .returned (.tuple #[Hed.pval Hed.zero, .int .i64 ((Att.atE l1 : Nat) : Int)]) ∧ Buf.RStep V2 w' g) := Lib.hid (Att.uaget_bad a1 g l1 V2 hr2 he)
    have CRg : Hid (∀ W, Below V1.heap.size V1 W → Calls Try.prog 21 #[.slice ad1 l1.length cap1, .agg #[.int .i64 a1.kind, .int .i64 a1.key.1, .int .i64 a1.key.2.1, .int .u32 a1.key.2.2, .int .i64 a1.hops, .int .i64 a1.no, .int .i64 a1.to, .int .i64 a1.index, .int .i64 a1.total, .int .i64 a1.stamp, .int .i64 a1.value, .slice a1.ad a1.body.length a1.cap]] W fun e w' => e = .returned (.tuple #[Hed.pval Hed.zero, .slice none 0 0, .int .i64 ((Att.atE l1 : Nat) : Int)]) ∧ Below W.heap.size W w') := Lib.hid (fun W hW => Att.draget_bad a1 ad1 l1.length cap1 V1.heap.size l1 W (HS1.out.kept fun b hb => hW.block b hb) hW.size he)
    have CS : Hid (∀ W, Calls Try.prog 8 #[Hed.pval Hed.zero, Hed.pval Hed.zero] W fun e w' => e = .returned (.bool true) ∧ Below W.heap.size W w') := Lib.hid (fun W => by
      have := Hed.rsame_any Hed.zero Hed.zero W (.inl rfl) (.inl rfl)
      rwa [Hed.eqP_self] at this)
    have hne : (((Att.atE l1 : Nat) : Int) != 0) = true := by simpa using he
    generalize ((Att.atE l1 : Nat) : Int) = er at *
    have hee : (er == er) = true := by simp
    have HZ7 : Hid (∀ (W : World) (b : Nat), Buf.Blk W b 27 (Hed.Pk.cells Hed.zero) → _ ∧ _) := Lib.hid (fun W b h => Hed.blk_cells h)
    unfold Hed.zero Hed.pval Hed.Pk.cells at CT CRg CS
    unfold Hed.zero Hed.Pk.cells at HZ7
    simp only [List.length_nil] at CT CRg CS HZ7
    clear he HS1 hr2
    go_wp2_with fail
    refine (CT.out).mono ?_; rintro e V3 ⟨rfl, hS3⟩
    have HS3 := Lib.hid hS3
    clear hS3
    have HB3 := Lib.hid (HB2.out.trans (HS3.out.below.mono HG0.out))
    have HK3 := Lib.hid (HK2.out.trans (HS3.out.below.mono HG1.out))
    clear c0 c1 c2 c3 c4 c5 c6 c7 c8 c9 c10 c11 CT HS3
    go_upto_region 4 with fail
    obtain ⟨W4, hW4⟩ : ∃ W4, Hid (W4 = V3.alloc (.cells #[.int .i64 0, .int .i64 0, .int .i64 0, .int .u32 0, .int .i64 0, .int .i64 0, .int .i64 0, .int .i64 0, .int .i64 0, .int .i64 0, .int .i64 0, .slice none 0 0] 27)) := ⟨_, Lib.hid rfl⟩
    rw [← hW4.out]
    have hX := Hed.one_box V3 W4 _ _ hW4.out
    have HB4 := Lib.hid (HB3.out.trans (hX.1.mono HB3.out.size))
    have HK4 := Lib.hid (HK3.out.trans (hX.1.mono HK3.out.size))
    have b4 := Lib.hid hX.2
    clear hX hW4 HK3 HB3
    obtain ⟨c0, c1, c2, c3, c4, c5, c6, c7, c8, c9, c10, c11⟩ := HC.out W4 HB4.out
    go_wp2_with fail
    refine (CRg.out W4 HK4.out).mono ?_; rintro e V5 ⟨rfl, hB5⟩
    have HB5 := Lib.hid (HB4.out.trans (hB5.mono HB4.out.size))
    have b5 := Lib.hid (b4.out.below hB5)
    clear c0 c1 c2 c3 c4 c5 c6 c7 c8 c9 c10 c11 CRg hB5 b4 HK4 HB4
    go_upto_region 5 with fail
    obtain ⟨W6, hW6⟩ : ∃ W6, Hid (W6 = V5.alloc (.cells #[.int .i64 0, .int .i64 0, .int .i64 0, .int .u32 0, .int .i64 0, .int .i64 0, .int .i64 0, .int .i64 0, .int .i64 0, .int .i64 0, .int .i64 0, .slice none 0 0] 27)) := ⟨_, Lib.hid rfl⟩
    rw [← hW6.out]
    have hX := Hed.one_box V5 W6 _ _ hW6.out
    have HB6 := Lib.hid (HB5.out.trans (hX.1.mono HB5.out.size))
    have b6 := b5.out.below hX.1
    obtain ⟨d0, d1, d2, d3, d4, d5, d6, d7, d8, d9, d10, d11⟩ := HZ7.out _ _ b6
    obtain ⟨e0, e1, e2, e3, e4, e5, e6, e7, e8, e9, e10, e11⟩ := HZ7.out _ _ hX.2
    have CS6 := Lib.hid (CS.out W6)
    clear hX hW6 b6 b5 HB5 CS HZ7
    go_wp2_with fail
    refine (CS6.out).mono ?_; rintro e V7 ⟨rfl, hB7⟩
    have HB7 := Lib.hid (HB6.out.trans (hB7.mono HB6.out.size))
    clear hB7 d0 d1 d2 d3 d4 d5 d6 d7 d8 d9 d10 d11 e0 e1 e2 e3 e4 e5 e6 e7 e8 e9 e10 e11 CS6
    go_wp2_with fail
    refine (CW.out _ HB7.out).mono ?_; rintro e V9 ⟨rfl, hB9⟩
    have HB9 := Lib.hid hB9
    clear hB9
    go_wp2_with fail
    go_ret
    exact ⟨rfl, HB0.out.trans (HB9.out.mono HB0.out.size)⟩

set_option maxRecDepth 100000 in
theorem lifted (os : Os) (started : os.Started) (H : Type) (enc : TypeId × Value → H) :
    ReturnsInHanded {} Try.checked os 5 .any (Rows.attendGetsSpec.pre6 enc Try.prog Try.f5 Rows.attendGetsRow.domain false) (Rows.attendGetsSpec.post enc Try.prog Try.f5 false true false false) := by
  refine returnsInHanded_of_change_sized (C := Try.checked) own started (by kernel_rfl) Try.func5
    (ChangeSpec.witness6 (enc := enc) (C := Try.checked) false ⟨#[], #[.slice none 0 0, .agg #[.int .i64 0, .int .i64 0, .int .i64 0, .int .u32 0, .int .i64 0, .int .i64 0, .int .i64 0, .int .i64 0, .int .i64 0, .int .i64 0, .int .i64 0, .slice none 0 0]], []⟩ 8 (by kernel_rfl) (by kernel_rfl) (by kernel_rfl) (by kernel_rfl)) ?_
  intro W base args ds gs before hval0 hW hcnd hsz0 _
  have hval : ∀ (j : Nat) t v, Try.f5.params[j]? = some t → args[j]? = some v → Value.okWide Try.prog W .any base t v := hval0
  have hW' := hW
  obtain ⟨p, q, hA0, hV, rfl, hfz, hnd⟩ := hW
  have hA : DataW.TrodAll enc Try.prog W 0 (fun _ => true) true Try.f5.params.toList args.toList ds p := hA0
  rw [Try.params5] at hA hval
  have hsz : (DataW.weightsEach Try.prog (Try.f5.params.toList ++ (Rows.attendGetsSpec.plain.varTypes Try.prog)) (ds ++ gs)).all (· ≤ reachBytes) = true := hsz0
  rw [Try.params5] at hsz
  obtain ⟨v0, vs0, d0, ds0, p0, q0, hargs, rfl, rfl, h0, r0⟩ := trodAll_cons hA
  obtain ⟨v1, vs1, d1, ds1, p1, q1, rfl, rfl, rfl, h1, r1⟩ := trodAll_cons r0
  obtain ⟨rfl, rfl, rfl⟩ := trodAll_nil r1
  obtain rfl : args = #[v0, v1] := by cases args; simp_all
  obtain ⟨rfl, rfl⟩ := trodVars_none hV
  obtain ⟨a0, len0, cap0, rfl⟩ := okWide_slice Try.underlying25 (hval 0 25 v0 rfl rfl)
  have k0 := h0
  have lt0 : ∀ x ∈ p0, x.block < W.heap.size := by obtain ⟨m, hm⟩ := k0; exact DataW.trod_lt m _ _ _ hm
  obtain ⟨z0, w0⟩ : ∃ zs, IsRow .u8 W a0 len0 cap0 zs := by
    obtain ⟨fuel, hf⟩ := h0
    rcases open_ints Try.underlying25 Try.underlying5 (by kernel_rfl) hf with ⟨hcs, _⟩ | ⟨x, l, c, zs, hcs, _, hl, hm, hz, _, hcell, hwz⟩
    · simp [Value.cells] at hcs
      obtain ⟨rfl, rfl, rfl⟩ := hcs
      exact ⟨[], .inl ⟨rfl, rfl, rfl, rfl⟩⟩
    · simp [Value.cells] at hcs
      obtain ⟨rfl, rfl, rfl⟩ := hcs
      exact ⟨zs, .inr ⟨_, rfl, hl, hm, by simpa using hz, hcell, hwz⟩⟩
  have k1 := h1
  have lt1 : ∀ x ∈ p1, x.block < W.heap.size := by obtain ⟨m, hm⟩ := k1; exact DataW.trod_lt m _ _ _ hm
  obtain ⟨a1, rfl, w1⟩ := Pul.open_pkx (hval 1 27 v1 rfl rfl) h1
  have s1 := Hed.cap_sized k1 (Hed.sized_at hsz (j := 1) (t := 27) rfl rfl)
  clear hA0 hval0 hsz hsz0
  refine (walk a0 len0 cap0 z0 a1 W w0 w1 s1).mono fun e W' ⟨he, bel⟩ => ?_
  subst he
  exact ⟨_, rfl, _, _, _, [], _, [], hW', trodAll_mk1 (shut_bool Try.underlying4 _), (trodAll_cons_mk (Below.trod laidOut (by kernel_rfl) (of_decide_eq_true (by kernel_rfl)) k0 bel lt0) (trodAll_cons_mk (Below.trod laidOut (by kernel_rfl) (of_decide_eq_true (by kernel_rfl)) k1 bel lt1) trodAll_mk0)), rfl, bel.frame _, fun h => by cases h⟩

theorem over : Rows.attendGetsRow.holds Try.pinned (OpenSpec.ofChange Rows.attendGetsSpec) :=
  OpenClaim.holds_of_wide 5 Try.f5 rfl rfl rfl rfl rfl rfl rfl ⟨rfl, rfl, rfl, rfl, rfl⟩ rfl rfl rfl rfl rfl (by kernel_rfl) Try.func5 (by kernel_rfl)
    (of_decide_eq_true (by kernel_rfl)) (by unfold Func.isWrapper; first | (rw [if_pos (by decide +kernel)]; kernel_rfl) | (rw [if_neg (by decide +kernel)]; exact ⟨rfl, rfl⟩))
    (fun os started H enc _ => lifted os started H enc)

theorem proved : Rows.AttendGetsSaid := over
#print axioms proved
end Go.Proofs.Ytepcbklokcfbfaa.lawAttendGets
