/- DatH DatI DatJ, laid into one. -/
import Derived.Test.YtanfnhgaooafeaaGreatDoorDatX
import Derived.Test.YtanfnhgaooafeaaGreatDoorBufX
/-! DatH -/
namespace Go.Proofs.YtanfnhgaooafeaaGreatDoor.Dat
open Go.ChangeShapes Go.WideShapes Go.ChangeAt Go.RowKit Go.Deep
open Go.Proofs.YtanfnhgaooafeaaGreatDoor.Byt Go.Proofs.YtanfnhgaooafeaaGreatDoor.Key Go.Proofs.YtanfnhgaooafeaaGreatDoor.Buf Go.Proofs.YtanfnhgaooafeaaGreatDoor.Hed Go.Proofs.YtanfnhgaooafeaaGreatDoor.BufM
set_option linter.unusedVariables false
set_option linter.unusedSimpArgs false
/-- The packet with another body. -/
def bodG (p : Pk) (ad : Option Addr) (cap : Nat) (body : List UInt8) : Pk := { p with ad := ad, cap := cap, body := body }
set_option maxRecDepth 100000 in
set_option maxHeartbeats 1000000 in
theorem dput_any (p : Pk) (g B m : Nat) (s : Int × List UInt8) (row : Option Nat) (w : World) (h : WR w B g m s row) (hm : s.2.length + p.body.length ≤ 900000) (hr : RdB w p.ad p.body) (hn : p.ad = none → p.cap = 0)
    (hsep : p.body ≠ [] → ∀ b o, p.ad = some ⟨b, o, none⟩ → b ≠ g ∧ some b ≠ row) :
    Calls Tryz.prog 35 #[.pointer (some ⟨g, 0, none⟩), pval p] w (WPost w B g m row (wBytes m s p.body)) := by
  obtain ⟨wb, hwb⟩ : ∃ wb, Hid (wb = w.alloc (.cells p.cells 27)) := ⟨_, Lib.hid rfl⟩
  have HB0 := Lib.hid (one_box w wb _ _ hwb.out).1
  have HC := Lib.hid (pk_cells w wb p hwb.out)
  have CP : Hid (Calls Tryz.prog 72 #[.pointer (some ⟨g, 0, none⟩), .slice p.ad p.body.length p.cap] wb (WPost w B g m row (wBytes m s p.body))) := Lib.hid ((wbytes_any g B m s row p.ad p.body.length p.cap p.body wb (h.kept HB0.out) rfl hm (hr.below HB0.out) hn hsep).mono fun e w' hq => WPost.ahead HB0.out h.le hq)
  generalize wBytes m s p.body = s2 at *
  obtain ⟨kind, ⟨t, f, q⟩, hops, no, to, index, total, stamp, value, ad, cap, body⟩ := p
  unfold Pk.cells at hwb
  unfold pval Pk.cells
  simp only at CP hwb HC ⊢
  obtain ⟨n, hnn⟩ : ∃ n, body.length = n := ⟨_, rfl⟩
  simp only [hnn] at CP hwb HC ⊢
  clear hnn hr hn hsep hm h
  go_enter Tryz.func35, Tryz.ntmps35
  go_upto_region 1 with fail
  rw [← hwb.out]
  obtain ⟨c0, c1, c2, c3, c4, c5, c6, c7, c8, c9, c10, c11⟩ := HC.out wb (Below.refl _ _)
  go_wp2_with fail
  refine (CP.out).mono ?_; intro e w' hh; obtain ⟨rfl, HP⟩ := hh.ret; clear hh
  go_wp2_with fail
  go_returns
  exact HP.out
set_option maxRecDepth 100000 in
theorem rdat_any (p : Pk) (w : World) (hm : p.body.length ≤ 1000000) (hr : RdB w p.ad p.body) (hn : p.ad = none → p.cap = 0) :
    Calls Tryz.prog 27 #[pval p] w (Gives (sev p.body.length ++ p.body) w) := by
  obtain ⟨wb, hwb⟩ : ∃ wb, Hid (wb = w.alloc (.cells p.cells 27)) := ⟨_, Lib.hid rfl⟩
  have HB0 := Lib.hid (one_box w wb _ _ hwb.out).1
  have HC := Lib.hid (pk_cells w wb p hwb.out)
  have CB : Hid (Calls Tryz.prog 61 #[.slice p.ad p.body.length p.cap] wb fun e w' => ∃ ad cap, e = .returned (.slice ad (sev p.body.length ++ p.body).length cap) ∧ Hid (Gives (sev p.body.length ++ p.body) w (.returned (.slice ad (sev p.body.length ++ p.body).length cap)) w')) := Lib.hid ((rBytes_any p.ad p.body.length p.cap p.body wb rfl hm (hr.below HB0.out) hn).mono fun e w' hq => by
    obtain ⟨ad, cap, rfl, ho, hB⟩ := hq
    exact ⟨ad, cap, rfl, Lib.hid ⟨ad, cap, rfl, Own.mono ho HB0.out.size, HB0.out.trans (hB.mono HB0.out.size)⟩⟩)
  generalize sev p.body.length ++ p.body = out at *
  obtain ⟨kind, ⟨t, f, q⟩, hops, no, to, index, total, stamp, value, ad, cap, body⟩ := p
  unfold Pk.cells at hwb
  unfold pval Pk.cells
  simp only at CB hwb HC ⊢
  obtain ⟨n, hnn⟩ : ∃ n, body.length = n := ⟨_, rfl⟩
  simp only [hnn] at CB hwb HC ⊢
  clear hnn hr hn hm
  go_enter Tryz.func27, Tryz.ntmps27
  go_upto_region 1 with fail
  rw [← hwb.out]
  obtain ⟨c0, c1, c2, c3, c4, c5, c6, c7, c8, c9, c10, c11⟩ := HC.out wb (Below.refl _ _)
  go_wp2_with fail
  refine (CB.out).mono ?_; rintro e w' ⟨ad2, cap2, rfl, HP⟩
  go_wp2_with fail
  go_ret
  exact HP.out
end Go.Proofs.YtanfnhgaooafeaaGreatDoor.Dat
/-! DatI -/
namespace Go.Proofs.YtanfnhgaooafeaaGreatDoor.Dat
open Go.ChangeShapes Go.WideShapes Go.ChangeAt Go.RowKit Go.Deep
open Go.Proofs.YtanfnhgaooafeaaGreatDoor.Byt Go.Proofs.YtanfnhgaooafeaaGreatDoor.Key Go.Proofs.YtanfnhgaooafeaaGreatDoor.Buf Go.Proofs.YtanfnhgaooafeaaGreatDoor.Hed Go.Proofs.YtanfnhgaooafeaaGreatDoor.BufM
set_option linter.unusedVariables false
set_option linter.unusedSimpArgs false
/-- What a Get of a body leaves where it went well. -/
def GotP (p : Pk) (w : World) (g : Nat) (s : Int × List UInt8) (l : List UInt8) (e : Ending) (w' : World) : Prop :=
  ∃ ad cap, e = .returned (.tuple #[pval (bodG p ad cap l), .int .i64 0]) ∧ OwnB w' (w.heap.size + 2) (.slice ad l.length cap) l ∧ RR w' g s ∧ RStep w w' g
set_option maxRecDepth 100000 in
set_option maxHeartbeats 2000000 in
theorem dget_ok (p : Pk) (g : Nat) (s : Int × List UInt8) (w : World) (h : RR w g s) (h0 : (bytS s 1024).1 = 0) :
    Calls Tryz.prog 36 #[.pointer (some ⟨g, 0, none⟩), pval p] w (GotP p w g (bytS s 1024) (getB s.2 1024).1) := by
  obtain ⟨W1, hW1⟩ : ∃ W1, Hid (W1 = (w.alloc (.cells p.cells 27)).alloc (.cells (Pk.cells zero) 27)) := ⟨_, Lib.hid rfl⟩
  have H1 := Lib.hid (G2.start h _ _ hW1.out)
  have hs1 : W1.heap.size = w.heap.size + 2 := by rw [hW1.out]; simp
  have CB : Hid (Calls Tryz.prog 73 #[.pointer (some ⟨g, 0, none⟩), .int .i64 1024] W1 fun e w' => ∃ ad cap, e = .returned (.slice ad (getB s.2 1024).1.length cap) ∧ Hid (OwnB w' (w.heap.size + 2) (.slice ad (getB s.2 1024).1.length cap) (getB s.2 1024).1) ∧ Hid (G2 w g p.cells (Pk.cells zero) (bytS s 1024) w')) := Lib.hid ((rbytes_any g s 1024 W1 H1.out.rr (by omega)).mono fun e w' hq => by
    obtain ⟨v, rfl, ho, h1, h2⟩ := hq
    obtain ⟨ad, cap, rfl, -⟩ := Own.shape ho
    exact ⟨ad, cap, rfl, Lib.hid (hs1 ▸ ho), Lib.hid (H1.out.go h1 h2)⟩)
  have CE : Hid (∀ W cs ds, G2 w g cs ds (bytS s 1024) W → Calls Tryz.prog 69 #[.pointer (some ⟨g, 0, none⟩)] W fun e w' => e = .returned (.int .i64 0) ∧ W = w') := Lib.hid (fun W cs ds hG => by
    have := err_any g (bytS s 1024) W hG.rr
    rwa [h0] at this)
  generalize (getB s.2 1024).1 = out at *
  generalize bytS s 1024 = s2 at *
  obtain ⟨kind, ⟨t, f, q⟩, hops, no, to, index, total, stamp, value, ad0, cap0, body⟩ := p
  have HP : Hid (∀ ad cap W ds, OwnB W (w.heap.size + 2) (.slice ad out.length cap) out → G2 w g ds (Pk.cells (bodG ⟨kind, (t, f, q), hops, no, to, index, total, stamp, value, ad0, cap0, body⟩ ad cap out)) s2 W → GotP ⟨kind, (t, f, q), hops, no, to, index, total, stamp, value, ad0, cap0, body⟩ w g s2 out (.returned (.tuple #[pval (bodG ⟨kind, (t, f, q), hops, no, to, index, total, stamp, value, ad0, cap0, body⟩ ad cap out), .int .i64 0])) W) := Lib.hid (fun ad cap W ds ho hG => ⟨ad, cap, rfl, ho, hG.rr, hG.step⟩)
  have HPO : Hid (∀ ad cap, Array.all (Pk.cells (bodG ⟨kind, (t, f, q), hops, no, to, index, total, stamp, value, ad0, cap0, body⟩ ad cap out)) (·.oneCell') = true) := Lib.hid (fun ad cap => pkP_one _)
  unfold bodG pval at HP
  unfold bodG at HPO
  unfold Pk.cells zero at hW1 CB
  unfold Pk.cells at HP HPO
  unfold pval Pk.cells
  simp only [List.length_nil] at hW1 CB HP HPO ⊢
  generalize hGot : GotP ⟨kind, (t, f, q), hops, no, to, index, total, stamp, value, ad0, cap0, body⟩ w g s2 out = Got at *
  obtain ⟨n, hn⟩ : ∃ n, body.length = n := ⟨_, rfl⟩
  obtain ⟨m, hm⟩ : ∃ m, out.length = m := ⟨_, rfl⟩
  simp only [hn] at hW1 CB ⊢
  simp only [hm] at CB HP HPO
  clear hn hm hs1 h h0 hGot H1
  go_enter Tryz.func36, Tryz.ntmps36
  go_upto_region 1 with fail
  rw [← hW1.out]
  go_wp2_with fail
  refine (CB.out).mono ?_; rintro e w2 ⟨ad, cap, rfl, HO, HG⟩
  have k11 := HG.out.box.cell 11
  have f11 := HG.out.box.free 11
  simp only [List.getElem?_toArray, List.getElem?_cons_succ, List.getElem?_cons_zero] at k11
  have HG3 := Lib.hid (HG.out.put 11 (.slice ad m cap))
  have HO3 := Lib.hid (((Away.refl w.heap.size w2).set 11 (.slice ad m cap)).own HO.out (by omega))
  simp only [List.setIfInBounds_toArray, List.set_cons_zero, List.set_cons_succ] at HG3
  clear CB HO HG hW1
  go_upto_region 2 with fail
  generalize w2.setCell ⟨w.heap.size, 11, none⟩ (.slice ad m cap) = w3 at *
  clear k11 f11
  go_wp2_with fail
  refine (CE.out _ _ _ HG3.out).mono ?_; rintro e w' ⟨rfl, rfl⟩
  have b1 := Lib.hid HG3.out.box
  have b2 := Lib.hid HG3.out.res
  have HG4 := Lib.hid (HG3.out.row #[.int .i64 kind, .int .i64 t, .int .i64 f, .int .u32 q, .int .i64 hops, .int .i64 no, .int .i64 to, .int .i64 index, .int .i64 total, .int .i64 stamp, .int .i64 value, .slice ad m cap] rfl)
  have HO4 := Lib.hid (own_box (V := w3.setRow (w.heap.size + 1) #[.int .i64 kind, .int .i64 t, .int .i64 f, .int .u32 q, .int .i64 hops, .int .i64 no, .int .i64 to, .int .i64 index, .int .i64 total, .int .i64 stamp, .int .i64 value, .slice ad m cap]) HO3.out (by simp) (fun k hk => setRow_other _ _ _ _ (by omega)))
  have b4 := Lib.hid HG4.out.res
  have O := Lib.hid (HPO.out ad cap)
  clear CE HPO HO3
  go_wp2_with (first
    | (refine wpList_load_row rfl 27 _ rfl _ rfl _ #[.int .i64 kind, .int .i64 t, .int .i64 f, .int .u32 q, .int .i64 hops, .int .i64 no, .int .i64 to, .int .i64 index, .int .i64 total, .int .i64 stamp, .int .i64 value, .slice ad m cap] _ _ b1.out Tryz.underlying27 rfl infoPk ?_)
    | (refine wpList_store_row rfl 27 _ _ rfl _ #[.int .i64 kind, .int .i64 t, .int .i64 f, .int .u32 q, .int .i64 hops, .int .i64 no, .int .i64 to, .int .i64 index, .int .i64 total, .int .i64 stamp, .int .i64 value, .slice ad m cap] rfl rfl _ _ b2.out infoPk rfl O.out ?_))
  exact bodyPost_ret (results_pk2 rfl _ _ (w.heap.size + 1) _ (.int .i64 0) rfl rfl b4.out rfl) rfl (HP.out ad cap _ _ HO4.out HG4.out)
set_option maxRecDepth 100000 in
set_option maxHeartbeats 2000000 in
theorem dget_bad (p : Pk) (g : Nat) (s : Int × List UInt8) (w : World) (h : RR w g s) (h0 : (bytS s 1024).1 ≠ 0) :
    Calls Tryz.prog 36 #[.pointer (some ⟨g, 0, none⟩), pval p] w (RPost w g (bytS s 1024) (.tuple #[pval zero, .int .i64 (bytS s 1024).1])) := by
  obtain ⟨W1, hW1⟩ : ∃ W1, Hid (W1 = (w.alloc (.cells p.cells 27)).alloc (.cells (Pk.cells zero) 27)) := ⟨_, Lib.hid rfl⟩
  have H1 := Lib.hid (G2.start h _ _ hW1.out)
  have hs1 : W1.heap.size = w.heap.size + 2 := by rw [hW1.out]; simp
  have CB : Hid (Calls Tryz.prog 73 #[.pointer (some ⟨g, 0, none⟩), .int .i64 1024] W1 fun e w' => ∃ ad m cap, e = .returned (.slice ad m cap) ∧ Hid (G2 w g p.cells (Pk.cells zero) (bytS s 1024) w')) := Lib.hid ((rbytes_any g s 1024 W1 H1.out.rr (by omega)).mono fun e w' hq => by
    obtain ⟨v, rfl, ho, h1, h2⟩ := hq
    obtain ⟨ad, cap, rfl, -⟩ := Own.shape ho
    exact ⟨ad, _, cap, rfl, Lib.hid (H1.out.go h1 h2)⟩)
  have CE : Hid (∀ W cs ds, G2 w g cs ds (bytS s 1024) W → Calls Tryz.prog 69 #[.pointer (some ⟨g, 0, none⟩)] W fun e w' => e = .returned (.int .i64 (bytS s 1024).1) ∧ W = w') := Lib.hid (fun W cs ds hG => err_any g (bytS s 1024) W hG.rr)
  have HP : Hid (∀ W cs ds, G2 w g cs ds (bytS s 1024) W → RPost w g (bytS s 1024) (.tuple #[pval zero, .int .i64 (bytS s 1024).1]) (.returned (.tuple #[pval zero, .int .i64 (bytS s 1024).1])) W) := Lib.hid (fun W cs ds hG => hG.rpost _)
  have hne : ((bytS s 1024).1 == 0) = false := by simpa using h0
  have HPO := Lib.hid zeroP_one
  generalize bytS s 1024 = s2 at *
  obtain ⟨er, lr⟩ := s2
  simp only at CE HP hne ⊢
  generalize RPost w g (er, lr) (.tuple #[pval zero, .int .i64 er]) = Got at *
  obtain ⟨kind, ⟨t, f, q⟩, hops, no, to, index, total, stamp, value, ad0, cap0, body⟩ := p
  unfold Pk.cells zero at hW1 CB HPO
  unfold pval Pk.cells zero at HP
  unfold pval Pk.cells
  simp only [List.length_nil] at hW1 CB HP HPO ⊢
  obtain ⟨n, hn⟩ : ∃ n, body.length = n := ⟨_, rfl⟩
  simp only [hn] at hW1 CB ⊢
  clear hn hs1 h h0 H1
  go_enter Tryz.func36, Tryz.ntmps36
  go_upto_region 1 with fail
  rw [← hW1.out]
  go_wp2_with fail
  refine (CB.out).mono ?_; rintro e w2 ⟨ad, m, cap, rfl, HG⟩
  have k11 := HG.out.box.cell 11
  have f11 := HG.out.box.free 11
  simp only [List.getElem?_toArray, List.getElem?_cons_succ, List.getElem?_cons_zero] at k11
  have HG3 := Lib.hid (HG.out.put 11 (.slice ad m cap))
  simp only [List.setIfInBounds_toArray, List.set_cons_zero, List.set_cons_succ] at HG3
  clear CB HG hW1
  go_upto_region 2 with fail
  generalize w2.setCell ⟨w.heap.size, 11, none⟩ (.slice ad m cap) = w3 at *
  clear k11 f11
  go_wp2_with fail
  refine (CE.out _ _ _ HG3.out).mono ?_; rintro e w' ⟨rfl, rfl⟩
  have b2 := Lib.hid HG3.out.res
  have HG4 := Lib.hid (HG3.out.row #[.int .i64 0, .int .i64 0, .int .i64 0, .int .u32 0, .int .i64 0, .int .i64 0, .int .i64 0, .int .i64 0, .int .i64 0, .int .i64 0, .int .i64 0, .slice none 0 0] rfl)
  have b4 := Lib.hid HG4.out.res
  clear CE
  go_wp2_with (refine wpList_store_row rfl 27 _ _ rfl _ #[.int .i64 0, .int .i64 0, .int .i64 0, .int .u32 0, .int .i64 0, .int .i64 0, .int .i64 0, .int .i64 0, .int .i64 0, .int .i64 0, .int .i64 0, .slice none 0 0] rfl rfl _ _ b2.out infoPk rfl HPO.out ?_)
  exact bodyPost_ret (results_pk2 rfl _ _ (w.heap.size + 1) _ (.int .i64 er) rfl rfl b4.out rfl) rfl (HP.out _ _ _ HG4.out)
end Go.Proofs.YtanfnhgaooafeaaGreatDoor.Dat
/-! DatJ -/
namespace Go.Proofs.YtanfnhgaooafeaaGreatDoor.Dat
open Go.ChangeShapes Go.WideShapes Go.ChangeAt Go.RowKit Go.Deep
open Go.Proofs.YtanfnhgaooafeaaGreatDoor.Byt Go.Proofs.YtanfnhgaooafeaaGreatDoor.Key Go.Proofs.YtanfnhgaooafeaaGreatDoor.Buf Go.Proofs.YtanfnhgaooafeaaGreatDoor.Hed Go.Proofs.YtanfnhgaooafeaaGreatDoor.BufM
set_option linter.unusedVariables false
set_option linter.unusedSimpArgs false
/-- What the document's Get leaves where it went well. -/
def RGotP (p : Pk) (w : World) (r : List UInt8 × List UInt8 × Nat) (e : Ending) (w' : World) : Prop :=
  ∃ ad cap ad2 cap2, e = .returned (.tuple #[pval (bodG p ad cap r.1), .slice ad2 r.2.1.length cap2, .int .i64 0]) ∧ RdB w' ad r.1 ∧ Below w.heap.size w w'
theorem rds_grown {w W V : World} {G : Nat} {ad : Option Addr} {len cap : Nat} {l : List UInt8} (h : RdS W G ad len cap l) (hG : G ≤ w.heap.size) (hB : Below w.heap.size W V) : RdB V ad l := (h.kept (fun b hb => hB.block b (by omega))).rd
end Go.Proofs.YtanfnhgaooafeaaGreatDoor.Dat
