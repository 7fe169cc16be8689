/- New of both, Put, at any writer; the document's Bytes (layer 12). -/
import Derived.Test.YtepcbklokcfbfaaAttM
import Derived.Test.YtepcbklokcfbfaaHedD
import Derived.Test.YtepcbklokcfbfaaBufI
namespace Go.Proofs.Ytepcbklokcfbfaa.Att
open Go.ChangeShapes Go.WideShapes Go.ChangeAt Go.RowKit Go.Deep
open Go.Proofs.Ytepcbklokcfbfaa.Byt Go.Proofs.Ytepcbklokcfbfaa.Key Go.Proofs.Ytepcbklokcfbfaa.Buf Go.Proofs.Ytepcbklokcfbfaa.Hed Go.Proofs.Ytepcbklokcfbfaa.Dat Go.Proofs.Ytepcbklokcfbfaa.BufM Go.Proofs.Ytepcbklokcfbfaa.Pkt
set_option linter.unusedVariables false
set_option linter.unusedSimpArgs false
theorem anew_any (k : Ky) (x : Int) (w : World) :
    Calls Try.prog 9 #[kval k, .int .i64 x] w fun e w' => e = .returned (pval (attP k 1 x)) ∧ Below w.heap.size w w' := by
  have HB : Hid (∀ o o', Below w.heap.size w ((w.alloc o).alloc o')) := Lib.hid (fun o o' => ((Below.refl _ _).alloc (Nat.le_refl _) o).alloc (by simp) o')
  obtain ⟨t, f, s⟩ := k
  unfold kval pval Pk.cells attP
  simp only [List.length_nil]
  go_enter Try.func9, Try.ntmps9
  go_wp2_with fail
  go_returns
  exact ⟨rfl, HB.out _ _⟩
theorem ranew_any (k : Ky) (x : Int) (w : World) :
    Calls Try.prog 10 #[kval k, .int .i64 x] w fun e w' => e = .returned (pval (attP k 1 x)) ∧ Below w.heap.size w w' := by
  have HB : Hid (∀ o o', Below w.heap.size w ((w.alloc o).alloc o')) := Lib.hid (fun o o' => ((Below.refl _ _).alloc (Nat.le_refl _) o).alloc (by simp) o')
  obtain ⟨t, f, s⟩ := k
  unfold kval pval Pk.cells attP
  simp only [List.length_nil]
  go_enter Try.func10, Try.ntmps10
  go_wp2_with fail
  go_returns
  exact ⟨rfl, HB.out _ _⟩
set_option maxRecDepth 100000 in
set_option maxHeartbeats 2000000 in
theorem aput_any (p : Pk) (g B m : Nat) (s : Int × List UInt8) (row : Option Nat) (w : World) (h : WR w B g m s row) (hm : s.2.length ≤ 800000) :
    Calls Try.prog 15 #[.pointer (some ⟨g, 0, none⟩), pval p] w (WPost w B g m row (wNum m s (un p.no))) := by
  obtain ⟨wb, hwb⟩ : ∃ wb, Hid (wb = w.alloc (.cells p.cells 27)) := ⟨_, Lib.hid rfl⟩
  have h0 := PS.start h 27 p.cells
  rw [← hwb.out] at h0
  have C0 := Lib.hid (h0.num (by omega) p.no)
  have HC := Lib.hid (pk_cells w wb p hwb.out)
  have HE : Hid (∀ W row', PS w B g m w.heap.size row 27 p.cells (wNum m s (un p.no)) W row' → WPost w B g m row (wNum m s (un p.no)) (.returned (.tuple #[])) W) := Lib.hid (fun W row' h => h.post)
  generalize WPost w B g m row (wNum m s (un p.no)) = Fin at *
  generalize wNum m s (un p.no) = sF at *
  clear h0 h hm
  obtain ⟨kind, ⟨t, f, q⟩, hops, no, to, index, total, stamp, value, ad, cap, body⟩ := p
  unfold Pk.cells at hwb C0 HE
  unfold pval Pk.cells
  simp only at C0 HE hwb HC ⊢
  obtain ⟨n, hnn⟩ : ∃ n, body.length = n := ⟨_, rfl⟩
  simp only [hnn] at C0 HE hwb HC ⊢
  clear hnn
  go_enter Try.func15, Try.ntmps15
  go_upto_region 1 with fail
  rw [← hwb.out]
  obtain ⟨c0, c1, c2, c3, c4, c5, c6, c7, c8, c9, c10, c11⟩ := HC.out wb (Below.refl _ _)
  go_wp2_with fail
  refine (C0.out).mono ?_; rintro e x0 ⟨rfl, row0, H3⟩
  have hF := Lib.hid (HE.out _ _ H3.out)
  clear HE H3
  go_wp2_with fail
  go_returns
  exact hF.out
set_option maxRecDepth 100000 in
theorem abytes_any (p : Pk) (w : World) :
    Calls Try.prog 17 #[pval p] w (Gives (sev (un p.no)) w) := by
  obtain ⟨wb, hwb⟩ : ∃ wb, Hid (wb = w.alloc (.cells p.cells 27)) := ⟨_, Lib.hid rfl⟩
  have HB0 := Lib.hid (one_box w wb _ _ hwb.out).1
  have HC := Lib.hid (pk_cells w wb p hwb.out)
  have CB : Hid (Calls Try.prog 32 #[.int .u64 (IntKind.u64.wrap p.no)] wb fun e w' => ∃ ad cap, e = .returned (.slice ad (sev (un p.no)).length cap) ∧ Hid (Gives (sev (un p.no)) w (.returned (.slice ad (sev (un p.no)).length cap)) w')) := Lib.hid ((by rw [← un_val]; exact rNum_any _ (un_lt _) wb : Calls Try.prog 32 #[.int .u64 (IntKind.u64.wrap p.no)] wb (Gives (sev (un p.no)) wb)).mono fun e w' hq => by
    obtain ⟨ad, cap, rfl, ho, hB⟩ := hq
    exact ⟨ad, cap, rfl, Lib.hid ⟨ad, cap, rfl, Own.mono ho HB0.out.size, HB0.out.trans (hB.mono HB0.out.size)⟩⟩)
  generalize sev (un p.no) = out at *
  obtain ⟨kind, ⟨t, f, s⟩, hops, no, to, index, total, stamp, value, ad, cap, body⟩ := p
  unfold Pk.cells at hwb
  unfold pval Pk.cells
  simp only at CB hwb HC ⊢
  obtain ⟨n, hnn⟩ : ∃ n, body.length = n := ⟨_, rfl⟩
  simp only [hnn] at hwb HC ⊢
  clear hnn
  go_enter Try.func17, Try.ntmps17
  go_upto_region 1 with fail
  rw [← hwb.out]
  obtain ⟨c0, c1, c2, c3, c4, c5, c6, c7, c8, c9, c10, c11⟩ := HC.out wb (Below.refl _ _)
  go_wp2_with fail
  refine (CB.out).mono ?_; rintro e w' ⟨ad2, cap2, rfl, HP⟩
  go_wp2_with fail
  go_ret
  exact HP.out
end Go.Proofs.Ytepcbklokcfbfaa.Att
