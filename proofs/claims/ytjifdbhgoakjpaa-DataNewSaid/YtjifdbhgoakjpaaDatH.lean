/- Put, Get (layer 10); the document's Bytes. -/
import Derived.Test.YtjifdbhgoakjpaaDatG
import Derived.Test.YtjifdbhgoakjpaaBufI
import Derived.Test.YtjifdbhgoakjpaaBufH
namespace Go.Proofs.Ytjifdbhgoakjpaa.Dat
open Go.ChangeShapes Go.WideShapes Go.ChangeAt Go.RowKit Go.Deep
open Go.Proofs.Ytjifdbhgoakjpaa.Byt Go.Proofs.Ytjifdbhgoakjpaa.Key Go.Proofs.Ytjifdbhgoakjpaa.Buf Go.Proofs.Ytjifdbhgoakjpaa.Hed Go.Proofs.Ytjifdbhgoakjpaa.BufM
set_option linter.unusedVariables false
set_option linter.unusedSimpArgs false
/-- The packet with another body. -/
def bodG (p : Pk) (ad : Option Addr) (cap : Nat) (body : List UInt8) : Pk := { p with ad := ad, cap := cap, body := body }
set_option maxRecDepth 100000 in
set_option maxHeartbeats 1000000 in
theorem dput_any (p : Pk) (g B m : Nat) (s : Int × List UInt8) (row : Option Nat) (w : World) (h : WR w B g m s row) (hm : s.2.length + p.body.length ≤ 900000) (hr : RdB w p.ad p.body) (hn : p.ad = none → p.cap = 0)
    (hsep : p.body ≠ [] → ∀ b o, p.ad = some ⟨b, o, none⟩ → b ≠ g ∧ some b ≠ row) :
    Calls Try.prog 16 #[.pointer (some ⟨g, 0, none⟩), pval p] w (WPost w B g m row (wBytes m s p.body)) := by
  obtain ⟨wb, hwb⟩ : ∃ wb, Hid (wb = w.alloc (.cells p.cells 27)) := ⟨_, Lib.hid rfl⟩
  have HB0 := Lib.hid (one_box w wb _ _ hwb.out).1
  have HC := Lib.hid (pk_cells w wb p hwb.out)
  have CP : Hid (Calls Try.prog 29 #[.pointer (some ⟨g, 0, none⟩), .slice p.ad p.body.length p.cap] wb (WPost w B g m row (wBytes m s p.body))) := Lib.hid ((wbytes_any g B m s row p.ad p.body.length p.cap p.body wb (h.kept HB0.out) rfl hm (hr.below HB0.out) hn hsep).mono fun e w' hq => WPost.ahead HB0.out h.le hq)
  generalize wBytes m s p.body = s2 at *
  obtain ⟨kind, ⟨t, f, q⟩, hops, no, to, index, total, stamp, value, ad, cap, body⟩ := p
  unfold Pk.cells at hwb
  unfold pval Pk.cells
  simp only at CP hwb HC ⊢
  obtain ⟨n, hnn⟩ : ∃ n, body.length = n := ⟨_, rfl⟩
  simp only [hnn] at CP hwb HC ⊢
  clear hnn hr hn hsep hm h
  go_enter Try.func16, Try.ntmps16
  go_upto_region 1 with fail
  rw [← hwb.out]
  obtain ⟨c0, c1, c2, c3, c4, c5, c6, c7, c8, c9, c10, c11⟩ := HC.out wb (Below.refl _ _)
  go_wp2_with fail
  refine (CP.out).mono ?_; intro e w' hh; obtain ⟨rfl, HP⟩ := hh.ret; clear hh
  go_wp2_with fail
  go_returns
  exact HP.out
set_option maxRecDepth 100000 in
theorem rdat_any (p : Pk) (w : World) (hm : p.body.length ≤ 1000000) (hr : RdB w p.ad p.body) (hn : p.ad = none → p.cap = 0) :
    Calls Try.prog 18 #[pval p] w (Gives (sev p.body.length ++ p.body) w) := by
  obtain ⟨wb, hwb⟩ : ∃ wb, Hid (wb = w.alloc (.cells p.cells 27)) := ⟨_, Lib.hid rfl⟩
  have HB0 := Lib.hid (one_box w wb _ _ hwb.out).1
  have HC := Lib.hid (pk_cells w wb p hwb.out)
  have CB : Hid (Calls Try.prog 31 #[.slice p.ad p.body.length p.cap] wb fun e w' => ∃ ad cap, e = .returned (.slice ad (sev p.body.length ++ p.body).length cap) ∧ Hid (Gives (sev p.body.length ++ p.body) w (.returned (.slice ad (sev p.body.length ++ p.body).length cap)) w')) := Lib.hid ((rBytes_any p.ad p.body.length p.cap p.body wb rfl hm (hr.below HB0.out) hn).mono fun e w' hq => by
    obtain ⟨ad, cap, rfl, ho, hB⟩ := hq
    exact ⟨ad, cap, rfl, Lib.hid ⟨ad, cap, rfl, Own.mono ho HB0.out.size, HB0.out.trans (hB.mono HB0.out.size)⟩⟩)
  generalize sev p.body.length ++ p.body = out at *
  obtain ⟨kind, ⟨t, f, q⟩, hops, no, to, index, total, stamp, value, ad, cap, body⟩ := p
  unfold Pk.cells at hwb
  unfold pval Pk.cells
  simp only at CB hwb HC ⊢
  obtain ⟨n, hnn⟩ : ∃ n, body.length = n := ⟨_, rfl⟩
  simp only [hnn] at CB hwb HC ⊢
  clear hnn hr hn hm
  go_enter Try.func18, Try.ntmps18
  go_upto_region 1 with fail
  rw [← hwb.out]
  obtain ⟨c0, c1, c2, c3, c4, c5, c6, c7, c8, c9, c10, c11⟩ := HC.out wb (Below.refl _ _)
  go_wp2_with fail
  refine (CB.out).mono ?_; rintro e w' ⟨ad2, cap2, rfl, HP⟩
  go_wp2_with fail
  go_ret
  exact HP.out
end Go.Proofs.Ytjifdbhgoakjpaa.Dat
