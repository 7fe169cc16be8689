/- Get (layer 11), at any reader. -/
import Derived.Test.YtanfnhgaooafeaaGreatDoorPulX
import Derived.Test.YtanfnhgaooafeaaGreatDoorPulY
import Derived.Test.YtanfnhgaooafeaaGreatDoorHedX
namespace Go.Proofs.YtanfnhgaooafeaaGreatDoor.Pul
open Go.ChangeShapes Go.WideShapes Go.ChangeAt Go.RowKit Go.Deep
open Go.Proofs.YtanfnhgaooafeaaGreatDoor.Byt Go.Proofs.YtanfnhgaooafeaaGreatDoor.Key Go.Proofs.YtanfnhgaooafeaaGreatDoor.Buf Go.Proofs.YtanfnhgaooafeaaGreatDoor.Hed Go.Proofs.YtanfnhgaooafeaaGreatDoor.Dat Go.Proofs.YtanfnhgaooafeaaGreatDoor.BufM
set_option linter.unusedVariables false
set_option linter.unusedSimpArgs false
/-- A reader beside three boxes: the packet that came in, the one handed back, what its kind has. -/
structure G3 (w : World) (g : Nat) (cs ds : Array Value) (bq : Nat) (ps : Array Value) (s : Int × List UInt8) (W : World) : Prop where
  g2 : G2 w g cs ds s W
  pts : Blk W bq 76 ps
  gt : w.heap.size + 2 ≤ bq
theorem G3.next {w W : World} {g : Nat} {cs ds : Array Value} {bq : Nat} {ps : Array Value} {s s' : Int × List UInt8} (h : G3 w g cs ds bq ps s W) {v : Value} {e : Ending} {w' : World} (hp : RPost W g s' v e w') : e = .returned v ∧ Hid (G3 w g cs ds bq ps s' w') := by
  obtain ⟨rfl, h1, h2⟩ := hp
  have := h.g2.lt
  have := h.gt
  exact ⟨rfl, Lib.hid ⟨h.g2.go h1 h2, (h2.block _ (by omega) h.pts.lt).trans h.pts, h.gt⟩⟩
theorem G3.kept {w W V : World} {g : Nat} {cs ds : Array Value} {bq : Nat} {ps : Array Value} {s : Int × List UInt8} (h : G3 w g cs ds bq ps s W) (hB : Below W.heap.size W V) : G3 w g cs ds bq ps s V :=
  ⟨h.g2.kept hB, h.pts.below hB, h.gt⟩
theorem G2.row0 {w W : World} {g : Nat} {cs ds : Array Value} {s : Int × List UInt8} (h : G2 w g cs ds s W) (es : Array Value) (hs : cs.size = es.size) : G2 w g es ds s (W.setRow w.heap.size es) := by
  have hlt := h.lt
  refine ⟨h.rr.behind fun b hb => setRow_other _ _ _ _ (by omega), Blk.row h.box es hs, (setRow_other _ _ _ _ (by omega)).trans h.res, h.lt, ⟨below_setRow h.step.below (by omega) _, fun k h1 h2 => ?_⟩⟩
  exact (setRow_other _ _ _ _ (by omega)).trans (h.step.block k h1 h2)
theorem G3.row0 {w W : World} {g : Nat} {cs ds : Array Value} {bq : Nat} {ps : Array Value} {s : Int × List UInt8} (h : G3 w g cs ds bq ps s W) (es : Array Value) (hs : cs.size = es.size) : G3 w g es ds bq ps s (W.setRow w.heap.size es) :=
  ⟨G2.row0 h.g2 es hs, (setRow_other _ _ _ _ (by have := h.gt; omega)).trans h.pts, h.gt⟩
theorem G3.start {w W1 w1 W2 : World} {g : Nat} {cs ds ps : Array Value} {s : Int × List UInt8} (h : G2 w g cs ds s W1) (hs : W1.heap.size = w.heap.size + 2) (hB : Below W1.heap.size W1 w1) (hW : W2 = w1.alloc (.cells ps 76)) : G3 w g cs ds w1.heap.size ps s W2 := by
  obtain ⟨x1, x2⟩ := one_box w1 W2 _ _ hW
  have := hB.size
  exact ⟨(h.kept hB).kept x1, x2, by omega⟩
theorem fil_same (p : Pk) (s : Int × List UInt8) : (filP p s).ad = p.ad ∧ (filP p s).cap = p.cap ∧ (filP p s).body = p.body := by
  unfold filP
  split
  · exact ⟨rfl, rfl, rfl⟩
  · split <;> exact ⟨rfl, rfl, rfl⟩
/-- The packet with another body's memory. -/
def memP (p : Pk) (ad : Option Addr) (cap : Nat) : Pk := { p with ad := ad, cap := cap }
/-- What is wrong behind Get. -/
def pulE (p : Pk) (s : Int × List UInt8) : Int := if (filS p.kind s).1 ≠ 0 then (filS p.kind s).1 else if p.kind = 3 ∧ noOk (filP p s).no = false then 2 else 0
set_option maxRecDepth 100000 in
set_option maxHeartbeats 2000000 in
theorem pget_kind (p : Pk) (g : Nat) (s : Int × List UInt8) (w : World) (hk : kk p.kind = false) (h : RR w g s) :
    Calls Tryz.prog 33 #[.pointer (some ⟨g, 0, none⟩), pval p] w (RPost w g s (.tuple #[pval zero, .int .i64 7])) := by
  obtain ⟨W1, hW1⟩ : ∃ W1, Hid (W1 = (w.alloc (.cells p.cells 27)).alloc (.cells (Pk.cells zero) 27)) := ⟨_, Lib.hid rfl⟩
  have H1 := Lib.hid (G2.start h _ _ hW1.out)
  have hs1 := Lib.hid (show W1.heap.size = w.heap.size + 2 by rw [hW1.out]; simp)
  have HC1 := Lib.hid (blk_cells H1.out.box)
  have CP := Lib.hid (fun W => parts_any p.kind W)
  have HS3 := Lib.hid (fun w1 W2 (hB : Below W1.heap.size W1 w1) (hW : W2 = w1.alloc (.cells (kcs p.kind) 76)) => G3.start H1.out hs1.out hB hW)
  have HE := Lib.hid (fun W => eq_pts_bin (p.kind == 1 || p.kind == 2) (p.kind == 2) (p.kind == 3) W)
  have HG := Lib.hid (fun x y W => eq_pts_guard (p.kind == 1 || p.kind == 2) (p.kind == 2) (p.kind == 3) x y W)
  rw [kk_pts, hk] at HE
  have HC3 : Hid (∀ bq W, G3 w g p.cells (Pk.cells zero) bq (kcs p.kind) s W → (_ ∧ _ ∧ _)) := Lib.hid (fun bq W hG => ⟨hG.pts.cell 0, hG.pts.cell 1, hG.pts.cell 2⟩)
  have HP : Hid (∀ W cs ds, G2 w g cs ds s W → RPost w g s (.tuple #[pval zero, .int .i64 7]) (.returned (.tuple #[pval zero, .int .i64 7])) W) := Lib.hid (fun W cs ds hG => hG.rpost _)
  have HPO := Lib.hid zeroP_one
  unfold kcs pcs at CP HC3 HS3
  generalize (p.kind == 1 || p.kind == 2) = pa at *
  generalize (p.kind == 2) = pb at *
  generalize (p.kind == 3) = pc at *
  simp only [List.getElem?_toArray, List.getElem?_cons_succ, List.getElem?_cons_zero] at HC3
  generalize RPost w g s (.tuple #[pval zero, .int .i64 7]) = Got at *
  obtain ⟨kind, ⟨t, f, q⟩, hops, no, to, index, total, stamp, value, ad0, cap0, body⟩ := p
  unfold Pk.cells zero at hW1 HPO HS3 HC3
  unfold pval Pk.cells zero at HP
  unfold pval Pk.cells
  simp only [List.length_nil] at CP hW1 HC1 HP HPO HS3 HC3 ⊢
  obtain ⟨n, hn⟩ : ∃ n, body.length = n := ⟨_, rfl⟩
  simp only [hn] at hW1 HC1 HS3 HC3 ⊢
  clear hn hs1 h H1
  have hE := HE.out
  have hG := HG.out
  obtain ⟨c0, c1, c2, c3, c4, c5, c6, c7, c8, c9, c10, c11⟩ := HC1.out
  go_enter Tryz.func33, Tryz.ntmps33
  go_upto_region 1 with fail
  rw [← hW1.out]
  go_wp2_with fail
  refine (CP.out _).mono ?_; rintro e w1 ⟨rfl, hB1⟩
  clear c0 c1 c2 c3 c4 c5 c6 c7 c8 c9 c10 c11 CP HC1 hW1
  go_upto_region 2 with fail
  obtain ⟨W2, hW2⟩ : ∃ W2, W2 = w1.alloc (.cells #[.bool pa, .bool pb, .bool pc] 76) := ⟨_, rfl⟩
  have H2 := Lib.hid (HS3.out w1 W2 hB1 hW2)
  rw [← hW2]
  clear hW2 hB1 HS3
  obtain ⟨p0, p1, p2⟩ := HC3.out _ _ H2.out
  have b2 := Lib.hid H2.out.g2.res
  have HG4 := Lib.hid (H2.out.g2.row #[.int .i64 0, .int .i64 0, .int .i64 0, .int .u32 0, .int .i64 0, .int .i64 0, .int .i64 0, .int .i64 0, .int .i64 0, .int .i64 0, .int .i64 0, .slice none 0 0] rfl)
  have b4 := Lib.hid HG4.out.res
  clear HC3 H2
  go_wp2_with (refine wpList_store_row rfl 27 _ _ rfl _ #[.int .i64 0, .int .i64 0, .int .i64 0, .int .u32 0, .int .i64 0, .int .i64 0, .int .i64 0, .int .i64 0, .int .i64 0, .int .i64 0, .int .i64 0, .slice none 0 0] rfl rfl _ _ b2.out infoPk rfl HPO.out ?_)
  exact bodyPost_ret (results_pk2 rfl _ _ (w.heap.size + 1) _ (.int .i64 7) rfl rfl b4.out rfl) rfl (HP.out _ _ _ HG4.out)
/-- Bytes that lie nowhere in a reader stay while it reads. -/
theorem rd_reader {w W : World} {g : Nat} {s : Int × List UInt8} {ad : Option Addr} {l : List UInt8} (hr : RdB w ad l) (hS : RStep w W g) (h : RR w g s) : RdB W ad l := by
  obtain ⟨a, c, hb, -⟩ := h.mem
  refine rd_kept hr fun hne b o e hlt => ?_
  rcases Nat.lt_or_ge b g with h1 | h1
  · exact hS.below.block b h1
  · rcases Nat.eq_or_lt_of_le h1 with h2 | h2
    · subst h2
      exfalso
      rcases hr with h0 | ⟨b', off, e', hc⟩
      · exact hne h0
      · have e2 : some (⟨g, o, none⟩ : Addr) = some ⟨b', off, none⟩ := e.symm.trans e'
        cases e2
        have := hc 0 (List.length_pos_iff.2 hne)
        rw [hb.cell] at this
        simp only [Nat.add_zero] at this
        match o, this with
        | 0, h => simp at h
        | 1, h => simp at h
        | n + 2, h => simp at h
    · exact hS.block b h2 hlt
set_option maxRecDepth 100000 in
set_option maxHeartbeats 4000000 in
theorem pget_err (p : Pk) (g : Nat) (s : Int × List UInt8) (w : World) (hk : kk p.kind = true) (h : RR w g s) (he : (filS p.kind s).1 ≠ 0) :
    Calls Tryz.prog 33 #[.pointer (some ⟨g, 0, none⟩), pval p] w (RPost w g (filS p.kind s) (.tuple #[pval zero, .int .i64 (filS p.kind s).1])) := by
  obtain ⟨W1, hW1⟩ : ∃ W1, Hid (W1 = (w.alloc (.cells p.cells 27)).alloc (.cells (Pk.cells zero) 27)) := ⟨_, Lib.hid rfl⟩
  have H1 := Lib.hid (G2.start h _ _ hW1.out)
  have hs1 := Lib.hid (show W1.heap.size = w.heap.size + 2 by rw [hW1.out]; simp)
  have HC1 := Lib.hid (blk_cells H1.out.box)
  have CP := Lib.hid (fun W => parts_any p.kind W)
  have HS3 := Lib.hid (fun w1 W2 (hB : Below W1.heap.size W1 w1) (hW : W2 = w1.alloc (.cells (kcs p.kind) 76)) => G3.start H1.out hs1.out hB hW)
  have HE := Lib.hid (fun W => eq_pts_bin (p.kind == 1 || p.kind == 2) (p.kind == 2) (p.kind == 3) W)
  have HG := Lib.hid (fun x y W => eq_pts_guard (p.kind == 1 || p.kind == 2) (p.kind == 2) (p.kind == 3) x y W)
  rw [kk_pts, hk] at HE
  have HC3 : Hid (∀ bq W, G3 w g p.cells (Pk.cells zero) bq (kcs p.kind) s W → (_ ∧ _ ∧ _) ∧ _) := Lib.hid (fun bq W hG => ⟨⟨hG.pts.cell 0, hG.pts.cell 1, hG.pts.cell 2⟩, blk_cells hG.g2.box⟩)
  have CF : Hid (∀ bq W, G3 w g p.cells (Pk.cells zero) bq (kcs p.kind) s W → Calls Tryz.prog 68 #[.pointer (some ⟨g, 0, none⟩), pval p, .agg (kcs p.kind)] W fun e w' => e = .returned (pval (filP p s)) ∧ Hid (G3 w g p.cells (Pk.cells zero) bq (kcs p.kind) (filS p.kind s) w')) := Lib.hid (fun bq W hG => (fill_any p g s W hk hG.g2.rr).mono fun e w' hp => hG.next hp)
  have CE : Hid (∀ bq W cs ds, G3 w g cs ds bq (kcs p.kind) (filS p.kind s) W → Calls Tryz.prog 69 #[.pointer (some ⟨g, 0, none⟩)] W fun e w' => e = .returned (.int .i64 (filS p.kind s).1) ∧ W = w') := Lib.hid (fun bq W cs ds hG => err_any g (filS p.kind s) W hG.g2.rr)
  have HR0 : Hid (∀ bq W, G3 w g p.cells (Pk.cells zero) bq (kcs p.kind) (filS p.kind s) W → G3 w g (filP p s).cells (Pk.cells zero) bq (kcs p.kind) (filS p.kind s) (W.setRow w.heap.size (filP p s).cells)) := Lib.hid (fun bq W hG => hG.row0 _ rfl)
  have HO1 := Lib.hid (pkP_one (filP p s))
  have HC4 : Hid (∀ bq W, G3 w g (filP p s).cells (Pk.cells zero) bq (kcs p.kind) (filS p.kind s) W → (_ ∧ _ ∧ _) ∧ _) := Lib.hid (fun bq W hG => ⟨⟨hG.pts.cell 0, hG.pts.cell 1, hG.pts.cell 2⟩, blk_cells hG.g2.box⟩)
  have HP : Hid (∀ W cs ds, G2 w g cs ds (filS p.kind s) W → RPost w g (filS p.kind s) (.tuple #[pval zero, .int .i64 (filS p.kind s).1]) (.returned (.tuple #[pval zero, .int .i64 (filS p.kind s).1])) W) := Lib.hid (fun W cs ds hG => hG.rpost _)
  have HPO := Lib.hid zeroP_one
  generalize RPost w g (filS p.kind s) (.tuple #[pval zero, .int .i64 (filS p.kind s).1]) = Got at *
  obtain ⟨er, her⟩ : ∃ er, (filS p.kind s).1 = er := ⟨_, rfl⟩
  rw [her] at he CE HP
  have hne : (er != 0) = true := by simpa using he
  clear her he
  unfold kcs pcs at CP HC3 HS3 CF CE HR0 HC4
  generalize filS p.kind s = sF at *
  generalize (p.kind == 1 || p.kind == 2) = pa at *
  generalize (p.kind == 2) = pb at *
  generalize (p.kind == 3) = pc at *
  obtain ⟨pF, hpF⟩ : ∃ pF, filP p s = pF := ⟨_, rfl⟩
  rw [hpF] at CF HR0 HC4 HO1
  clear hpF
  obtain ⟨kind, ⟨t, f, q⟩, hops, no, to, index, total, stamp, value, ad0, cap0, body⟩ := p
  obtain ⟨kind1, ⟨t1, f1, q1⟩, hops1, no1, to1, index1, total1, stamp1, value1, ad1, cap1, body1⟩ := pF
  unfold Pk.cells zero at hW1 HS3 HC3 CF HR0 HC4 HPO
  unfold Pk.cells at HO1
  unfold pval at CF
  unfold pval Pk.cells zero at HP
  unfold pval Pk.cells
  unfold Pk.cells at CF
  simp only [List.length_nil, List.getElem?_toArray, List.getElem?_cons_succ, List.getElem?_cons_zero] at CP hW1 HC1 HS3 HC3 CF CE HR0 HC4 HO1 HP HPO ⊢
  obtain ⟨n, hn⟩ : ∃ n, body.length = n := ⟨_, rfl⟩
  obtain ⟨n1, hn1⟩ : ∃ n1, body1.length = n1 := ⟨_, rfl⟩
  simp only [hn] at hW1 HC1 HS3 HC3 CF HR0 ⊢
  simp only [hn1] at CF HR0 HC4 HO1
  clear hn hn1 hs1 h H1
  have hE := HE.out
  have hG := HG.out
  obtain ⟨c0, c1, c2, c3, c4, c5, c6, c7, c8, c9, c10, c11⟩ := HC1.out
  go_enter Tryz.func33, Tryz.ntmps33
  go_upto_region 1 with fail
  rw [← hW1.out]
  go_wp2_with fail
  refine (CP.out _).mono ?_; rintro e w1 ⟨rfl, hB1⟩
  clear c0 c1 c2 c3 c4 c5 c6 c7 c8 c9 c10 c11 CP HC1 hW1
  go_upto_region 2 with fail
  obtain ⟨W2, hW2⟩ : ∃ W2, W2 = w1.alloc (.cells #[.bool pa, .bool pb, .bool pc] 76) := ⟨_, rfl⟩
  have H2 := Lib.hid (HS3.out w1 W2 hB1 hW2)
  rw [← hW2]
  clear hW2 hB1 HS3
  obtain ⟨⟨p0, p1, p2⟩, c0, c1, c2, c3, c4, c5, c6, c7, c8, c9, c10, c11⟩ := HC3.out _ _ H2.out
  go_wp2_with fail
  refine (CF.out _ _ H2.out).mono ?_; rintro e w3 ⟨rfl, H3⟩
  have b3 := Lib.hid H3.out.g2.box
  have H4 := Lib.hid (HR0.out _ _ H3.out)
  clear p0 p1 p2 c0 c1 c2 c3 c4 c5 c6 c7 c8 c9 c10 c11 H2 HC3 CF HR0 hE hG HE HG
  go_upto_region 5 with (refine wpList_store_row rfl 27 _ _ rfl _ #[.int .i64 kind1, .int .i64 t1, .int .i64 f1, .int .u32 q1, .int .i64 hops1, .int .i64 no1, .int .i64 to1, .int .i64 index1, .int .i64 total1, .int .i64 stamp1, .int .i64 value1, .slice ad1 n1 cap1] rfl rfl _ _ b3.out infoPk rfl HO1.out ?_)
  generalize w3.setRow w.heap.size #[.int .i64 kind1, .int .i64 t1, .int .i64 f1, .int .u32 q1, .int .i64 hops1, .int .i64 no1, .int .i64 to1, .int .i64 index1, .int .i64 total1, .int .i64 stamp1, .int .i64 value1, .slice ad1 n1 cap1] = w4 at *
  clear b3 HO1 H3
  go_wp2_with fail
  refine (CE.out _ _ _ _ H4.out).mono ?_; rintro e w' ⟨rfl, rfl⟩
  obtain ⟨⟨p0, p1, p2⟩, c0, c1, c2, c3, c4, c5, c6, c7, c8, c9, c10, c11⟩ := HC4.out _ _ H4.out
  have b2 := Lib.hid H4.out.g2.res
  have HG4 := Lib.hid (H4.out.g2.row #[.int .i64 0, .int .i64 0, .int .i64 0, .int .u32 0, .int .i64 0, .int .i64 0, .int .i64 0, .int .i64 0, .int .i64 0, .int .i64 0, .int .i64 0, .slice none 0 0] rfl)
  have b4 := Lib.hid HG4.out.res
  clear CE HC4 H4
  go_wp2_with (refine wpList_store_row rfl 27 _ _ rfl _ #[.int .i64 0, .int .i64 0, .int .i64 0, .int .u32 0, .int .i64 0, .int .i64 0, .int .i64 0, .int .i64 0, .int .i64 0, .int .i64 0, .int .i64 0, .slice none 0 0] rfl rfl _ _ b2.out infoPk rfl HPO.out ?_)
  exact bodyPost_ret (results_pk2 rfl _ _ (w.heap.size + 1) _ (.int .i64 er) rfl rfl b4.out rfl) rfl (HP.out _ _ _ HG4.out)
set_option maxRecDepth 100000 in
set_option maxHeartbeats 4000000 in
theorem pget_range (p : Pk) (g : Nat) (s : Int × List UInt8) (w : World) (hk : kk p.kind = true) (h : RR w g s) (he : (filS p.kind s).1 = 0) (h3 : p.kind = 3) (hno : noOk (filP p s).no = false) :
    Calls Tryz.prog 33 #[.pointer (some ⟨g, 0, none⟩), pval p] w (RPost w g (filS p.kind s) (.tuple #[pval zero, .int .i64 2])) := by
  obtain ⟨W1, hW1⟩ : ∃ W1, Hid (W1 = (w.alloc (.cells p.cells 27)).alloc (.cells (Pk.cells zero) 27)) := ⟨_, Lib.hid rfl⟩
  have H1 := Lib.hid (G2.start h _ _ hW1.out)
  have hs1 := Lib.hid (show W1.heap.size = w.heap.size + 2 by rw [hW1.out]; simp)
  have HC1 := Lib.hid (blk_cells H1.out.box)
  have CP := Lib.hid (fun W => parts_any p.kind W)
  have HS3 := Lib.hid (fun w1 W2 (hB : Below W1.heap.size W1 w1) (hW : W2 = w1.alloc (.cells (kcs p.kind) 76)) => G3.start H1.out hs1.out hB hW)
  have HE := Lib.hid (fun W => eq_pts_bin (p.kind == 1 || p.kind == 2) (p.kind == 2) (p.kind == 3) W)
  have HG := Lib.hid (fun x y W => eq_pts_guard (p.kind == 1 || p.kind == 2) (p.kind == 2) (p.kind == 3) x y W)
  rw [kk_pts, hk] at HE
  have HC3 : Hid (∀ bq W, G3 w g p.cells (Pk.cells zero) bq (kcs p.kind) s W → (_ ∧ _ ∧ _) ∧ _) := Lib.hid (fun bq W hG => ⟨⟨hG.pts.cell 0, hG.pts.cell 1, hG.pts.cell 2⟩, blk_cells hG.g2.box⟩)
  have CF : Hid (∀ bq W, G3 w g p.cells (Pk.cells zero) bq (kcs p.kind) s W → Calls Tryz.prog 68 #[.pointer (some ⟨g, 0, none⟩), pval p, .agg (kcs p.kind)] W fun e w' => e = .returned (pval (filP p s)) ∧ Hid (G3 w g p.cells (Pk.cells zero) bq (kcs p.kind) (filS p.kind s) w')) := Lib.hid (fun bq W hG => (fill_any p g s W hk hG.g2.rr).mono fun e w' hp => hG.next hp)
  have CE : Hid (∀ bq W cs ds, G3 w g cs ds bq (kcs p.kind) (filS p.kind s) W → Calls Tryz.prog 69 #[.pointer (some ⟨g, 0, none⟩)] W fun e w' => e = .returned (.int .i64 (filS p.kind s).1) ∧ W = w') := Lib.hid (fun bq W cs ds hG => err_any g (filS p.kind s) W hG.g2.rr)
  have HR0 : Hid (∀ bq W, G3 w g p.cells (Pk.cells zero) bq (kcs p.kind) (filS p.kind s) W → G3 w g (filP p s).cells (Pk.cells zero) bq (kcs p.kind) (filS p.kind s) (W.setRow w.heap.size (filP p s).cells)) := Lib.hid (fun bq W hG => hG.row0 _ rfl)
  have HO1 := Lib.hid (pkP_one (filP p s))
  have HC4 : Hid (∀ bq W, G3 w g (filP p s).cells (Pk.cells zero) bq (kcs p.kind) (filS p.kind s) W → (_ ∧ _ ∧ _) ∧ _) := Lib.hid (fun bq W hG => ⟨⟨hG.pts.cell 0, hG.pts.cell 1, hG.pts.cell 2⟩, blk_cells hG.g2.box⟩)
  have HP : Hid (∀ W cs ds, G2 w g cs ds (filS p.kind s) W → RPost w g (filS p.kind s) (.tuple #[pval zero, .int .i64 2]) (.returned (.tuple #[pval zero, .int .i64 2])) W) := Lib.hid (fun W cs ds hG => hG.rpost _)
  have HPO := Lib.hid zeroP_one
  have CI := Lib.hid (fun W => isno_any (filP p s).no W)
  rw [hno] at CI
  have hpc : (p.kind == 3) = true := by simpa using h3
  generalize RPost w g (filS p.kind s) (.tuple #[pval zero, .int .i64 2]) = Got at *
  rw [he] at CE
  clear he hno h3
  unfold kcs pcs at CP HC3 HS3 CF CE HR0 HC4
  generalize filS p.kind s = sF at *
  generalize (p.kind == 1 || p.kind == 2) = pa at *
  generalize (p.kind == 2) = pb at *
  generalize (p.kind == 3) = pc at *
  subst hpc
  obtain ⟨pF, hpF⟩ : ∃ pF, filP p s = pF := ⟨_, rfl⟩
  rw [hpF] at CF HR0 HC4 HO1 CI
  clear hpF
  obtain ⟨kind, ⟨t, f, q⟩, hops, no, to, index, total, stamp, value, ad0, cap0, body⟩ := p
  obtain ⟨kind1, ⟨t1, f1, q1⟩, hops1, no1, to1, index1, total1, stamp1, value1, ad1, cap1, body1⟩ := pF
  unfold Pk.cells zero at hW1 HS3 HC3 CF HR0 HC4 HPO
  unfold Pk.cells at HO1
  unfold pval at CF
  unfold pval Pk.cells zero at HP
  unfold pval Pk.cells
  unfold Pk.cells at CF
  simp only [List.length_nil, List.getElem?_toArray, List.getElem?_cons_succ, List.getElem?_cons_zero] at CP hW1 HC1 HS3 HC3 CF CE HR0 HC4 HO1 HP HPO CI ⊢
  obtain ⟨n, hn⟩ : ∃ n, body.length = n := ⟨_, rfl⟩
  obtain ⟨n1, hn1⟩ : ∃ n1, body1.length = n1 := ⟨_, rfl⟩
  simp only [hn] at hW1 HC1 HS3 HC3 CF HR0 ⊢
  simp only [hn1] at CF HR0 HC4 HO1
  clear hn hn1 hs1 h H1
  have hE := HE.out
  have hG := HG.out
  obtain ⟨c0, c1, c2, c3, c4, c5, c6, c7, c8, c9, c10, c11⟩ := HC1.out
  go_enter Tryz.func33, Tryz.ntmps33
  go_upto_region 1 with fail
  rw [← hW1.out]
  go_wp2_with fail
  refine (CP.out _).mono ?_; rintro e w1 ⟨rfl, hB1⟩
  clear c0 c1 c2 c3 c4 c5 c6 c7 c8 c9 c10 c11 CP HC1 hW1
  go_upto_region 2 with fail
  obtain ⟨W2, hW2⟩ : ∃ W2, W2 = w1.alloc (.cells #[.bool pa, .bool pb, .bool true] 76) := ⟨_, rfl⟩
  have H2 := Lib.hid (HS3.out w1 W2 hB1 hW2)
  rw [← hW2]
  clear hW2 hB1 HS3
  obtain ⟨⟨p0, p1, p2⟩, c0, c1, c2, c3, c4, c5, c6, c7, c8, c9, c10, c11⟩ := HC3.out _ _ H2.out
  go_wp2_with fail
  refine (CF.out _ _ H2.out).mono ?_; rintro e w3 ⟨rfl, H3⟩
  have b3 := Lib.hid H3.out.g2.box
  have H4 := Lib.hid (HR0.out _ _ H3.out)
  clear p0 p1 p2 c0 c1 c2 c3 c4 c5 c6 c7 c8 c9 c10 c11 H2 HC3 CF HR0 hE hG HE HG
  go_upto_region 5 with (refine wpList_store_row rfl 27 _ _ rfl _ #[.int .i64 kind1, .int .i64 t1, .int .i64 f1, .int .u32 q1, .int .i64 hops1, .int .i64 no1, .int .i64 to1, .int .i64 index1, .int .i64 total1, .int .i64 stamp1, .int .i64 value1, .slice ad1 n1 cap1] rfl rfl _ _ b3.out infoPk rfl HO1.out ?_)
  generalize w3.setRow w.heap.size #[.int .i64 kind1, .int .i64 t1, .int .i64 f1, .int .u32 q1, .int .i64 hops1, .int .i64 no1, .int .i64 to1, .int .i64 index1, .int .i64 total1, .int .i64 stamp1, .int .i64 value1, .slice ad1 n1 cap1] = w4 at *
  clear b3 HO1 H3
  go_wp2_with fail
  refine (CE.out _ _ _ _ H4.out).mono ?_; rintro e w' ⟨rfl, rfl⟩
  obtain ⟨⟨p0, p1, p2⟩, c0, c1, c2, c3, c4, c5, c6, c7, c8, c9, c10, c11⟩ := HC4.out _ _ H4.out
  have b2 := Lib.hid H4.out.g2.res
  have HG4 := Lib.hid (H4.out.g2.row #[.int .i64 0, .int .i64 0, .int .i64 0, .int .u32 0, .int .i64 0, .int .i64 0, .int .i64 0, .int .i64 0, .int .i64 0, .int .i64 0, .int .i64 0, .slice none 0 0] rfl)
  have b4 := Lib.hid HG4.out.res
  clear CE HC4 H4
  go_wp2_with fail
  refine (CI.out _).mono ?_; rintro e w5 ⟨rfl, rfl⟩
  go_wp2_with (refine wpList_store_row rfl 27 _ _ rfl _ #[.int .i64 0, .int .i64 0, .int .i64 0, .int .u32 0, .int .i64 0, .int .i64 0, .int .i64 0, .int .i64 0, .int .i64 0, .int .i64 0, .int .i64 0, .slice none 0 0] rfl rfl _ _ b2.out infoPk rfl HPO.out ?_)
  exact bodyPost_ret (results_pk2 rfl _ _ (w.heap.size + 1) _ (.int .i64 2) rfl rfl b4.out rfl) rfl (HP.out _ _ _ HG4.out)
set_option maxRecDepth 100000 in
set_option maxHeartbeats 4000000 in
theorem pget_ok (p : Pk) (g : Nat) (s : Int × List UInt8) (w : World) (hk : kk p.kind = true) (h : RR w g s) (he : (filS p.kind s).1 = 0) (hno : p.kind = 3 → noOk (filP p s).no = true) (hr : RdB w p.ad p.body) (hn : p.ad = none → p.cap = 0) (hle : p.body.length ≤ p.cap) (hm : p.cap ≤ 140737488355328) :
    Calls Tryz.prog 33 #[.pointer (some ⟨g, 0, none⟩), pval p] w fun e w' => ∃ ad cap, e = .returned (.tuple #[pval (memP (filP p s) ad cap), .int .i64 0]) ∧ Hid (RdB w' ad p.body) ∧ Hid (RR w' g (filS p.kind s)) ∧ Hid (RStep w w' g) := by
  obtain ⟨W1, hW1⟩ : ∃ W1, Hid (W1 = (w.alloc (.cells p.cells 27)).alloc (.cells (Pk.cells zero) 27)) := ⟨_, Lib.hid rfl⟩
  have H1 := Lib.hid (G2.start h _ _ hW1.out)
  have hs1 := Lib.hid (show W1.heap.size = w.heap.size + 2 by rw [hW1.out]; simp)
  have HC1 := Lib.hid (blk_cells H1.out.box)
  have CP := Lib.hid (fun W => parts_any p.kind W)
  have HS3 := Lib.hid (fun w1 W2 (hB : Below W1.heap.size W1 w1) (hW : W2 = w1.alloc (.cells (kcs p.kind) 76)) => G3.start H1.out hs1.out hB hW)
  have HE := Lib.hid (fun W => eq_pts_bin (p.kind == 1 || p.kind == 2) (p.kind == 2) (p.kind == 3) W)
  have HG := Lib.hid (fun x y W => eq_pts_guard (p.kind == 1 || p.kind == 2) (p.kind == 2) (p.kind == 3) x y W)
  rw [kk_pts, hk] at HE
  have HC3 : Hid (∀ bq W, G3 w g p.cells (Pk.cells zero) bq (kcs p.kind) s W → (_ ∧ _ ∧ _) ∧ _) := Lib.hid (fun bq W hG => ⟨⟨hG.pts.cell 0, hG.pts.cell 1, hG.pts.cell 2⟩, blk_cells hG.g2.box⟩)
  have CF : Hid (∀ bq W, G3 w g p.cells (Pk.cells zero) bq (kcs p.kind) s W → Calls Tryz.prog 68 #[.pointer (some ⟨g, 0, none⟩), pval p, .agg (kcs p.kind)] W fun e w' => e = .returned (pval (filP p s)) ∧ Hid (G3 w g p.cells (Pk.cells zero) bq (kcs p.kind) (filS p.kind s) w')) := Lib.hid (fun bq W hG => (fill_any p g s W hk hG.g2.rr).mono fun e w' hp => hG.next hp)
  have CE : Hid (∀ bq W cs ds, G3 w g cs ds bq (kcs p.kind) (filS p.kind s) W → Calls Tryz.prog 69 #[.pointer (some ⟨g, 0, none⟩)] W fun e w' => e = .returned (.int .i64 (filS p.kind s).1) ∧ W = w') := Lib.hid (fun bq W cs ds hG => err_any g (filS p.kind s) W hG.g2.rr)
  have HR0 : Hid (∀ bq W, G3 w g p.cells (Pk.cells zero) bq (kcs p.kind) (filS p.kind s) W → G3 w g (filP p s).cells (Pk.cells zero) bq (kcs p.kind) (filS p.kind s) (W.setRow w.heap.size (filP p s).cells)) := Lib.hid (fun bq W hG => hG.row0 _ rfl)
  have HO1 := Lib.hid (pkP_one (filP p s))
  have HC4 : Hid (∀ bq W, G3 w g (filP p s).cells (Pk.cells zero) bq (kcs p.kind) (filS p.kind s) W → (_ ∧ _ ∧ _) ∧ _) := Lib.hid (fun bq W hG => ⟨⟨hG.pts.cell 0, hG.pts.cell 1, hG.pts.cell 2⟩, blk_cells hG.g2.box⟩)
  have HPO : Hid (∀ ad cap, (memP (filP p s) ad cap).cells.all (·.oneCell') = true) := Lib.hid (fun ad cap => pkP_one _)
  have CI := Lib.hid (fun (h3 : (p.kind == 3) = true) W => (hno (by simpa using h3)) ▸ isno_any (filP p s).no W)
  have CC : Hid (∀ bq W, G3 w g (filP p s).cells (Pk.cells zero) bq (kcs p.kind) (filS p.kind s) W → Calls Tryz.prog 70 #[.slice (filP p s).ad (filP p s).body.length (filP p s).cap] W fun e w' => ∃ ad cap, e = .returned (.slice ad (filP p s).body.length cap) ∧ Hid (G3 w g (filP p s).cells (Pk.cells zero) bq (kcs p.kind) (filS p.kind s) w') ∧ Hid (RdB w' ad p.body)) := Lib.hid (fun bq W hG => by
    obtain ⟨e1, e2, e3⟩ := fil_same p s
    rw [e1, e2, e3]
    have hrW : RdB W p.ad p.body := rd_reader hr hG.g2.step h
    refine (clone_any p.ad p.body.length p.cap p.body W rfl hle hm hrW hn).mono fun e w' hh => ?_
    obtain ⟨ad, cap, rfl, q1, q2⟩ := hh
    exact ⟨ad, cap, rfl, Lib.hid (hG.kept q2), Lib.hid q1⟩)
  have HL : Hid (∀ bq W ad cap, G3 w g (filP p s).cells (Pk.cells zero) bq (kcs p.kind) (filS p.kind s) W → RdB W ad p.body → Hid (Blk (W.setCell ⟨w.heap.size, 11, none⟩ (.slice ad (filP p s).body.length cap)) w.heap.size 27 (memP (filP p s) ad cap).cells) ∧ Hid (Blk (W.setCell ⟨w.heap.size, 11, none⟩ (.slice ad (filP p s).body.length cap)) (w.heap.size + 1) 27 (Pk.cells zero)) ∧ Hid (Blk ((W.setCell ⟨w.heap.size, 11, none⟩ (.slice ad (filP p s).body.length cap)).setRow (w.heap.size + 1) (memP (filP p s) ad cap).cells) (w.heap.size + 1) 27 (memP (filP p s) ad cap).cells) ∧ Hid (∃ ad' cap', Ending.returned (.tuple #[pval (memP (filP p s) ad cap), .int .i64 0]) = .returned (.tuple #[pval (memP (filP p s) ad' cap'), .int .i64 0]) ∧ Hid (RdB ((W.setCell ⟨w.heap.size, 11, none⟩ (.slice ad (filP p s).body.length cap)).setRow (w.heap.size + 1) (memP (filP p s) ad cap).cells) ad' p.body) ∧ Hid (RR ((W.setCell ⟨w.heap.size, 11, none⟩ (.slice ad (filP p s).body.length cap)).setRow (w.heap.size + 1) (memP (filP p s) ad cap).cells) g (filS p.kind s)) ∧ Hid (RStep w ((W.setCell ⟨w.heap.size, 11, none⟩ (.slice ad (filP p s).body.length cap)).setRow (w.heap.size + 1) (memP (filP p s) ad cap).cells) g))) := Lib.hid (fun bq W ad cap hG hrd => by
    have q1 := hG.g2.put 11 (.slice ad (filP p s).body.length cap)
    have e : (filP p s).cells.setIfInBounds 11 (.slice ad (filP p s).body.length cap) = (memP (filP p s) ad cap).cells := by
      unfold memP Pk.cells
      simp only [List.setIfInBounds_toArray, List.set_cons_zero, List.set_cons_succ]
    rw [e] at q1
    have q2 := q1.row (memP (filP p s) ad cap).cells rfl
    have r1 := rd_other (w' := W.setCell ⟨w.heap.size, 11, none⟩ (.slice ad (filP p s).body.length cap)) (filP p s) hrd hG.g2.box (fun b hb => heap_setCell_other _ _ _ _ hb)
    have r2 := rd_other (w' := (W.setCell ⟨w.heap.size, 11, none⟩ (.slice ad (filP p s).body.length cap)).setRow (w.heap.size + 1) (memP (filP p s) ad cap).cells) zero r1 q1.res (fun b hb => setRow_other _ _ _ _ hb)
    exact ⟨Lib.hid q1.box, Lib.hid q1.res, Lib.hid q2.res, Lib.hid ⟨ad, cap, rfl, Lib.hid r2, Lib.hid q2.rr, Lib.hid q2.step⟩⟩)
  generalize hGot : (fun (e : Ending) (w' : World) => ∃ ad cap, e = .returned (.tuple #[pval (memP (filP p s) ad cap), .int .i64 0]) ∧ Hid (RdB w' ad p.body) ∧ Hid (RR w' g (filS p.kind s)) ∧ Hid (RStep w w' g)) = Got at *
  have HGt : Hid (∀ e W, (∃ ad' cap', e = .returned (.tuple #[pval (memP (filP p s) ad' cap'), .int .i64 0]) ∧ Hid (RdB W ad' p.body) ∧ Hid (RR W g (filS p.kind s)) ∧ Hid (RStep w W g)) → Got e W) := Lib.hid (fun e W hh => by rw [← hGot]; exact hh)
  rw [he] at CE
  clear he hno hGot hr hn hle hm
  unfold kcs pcs at CP HC3 HS3 CF CE HR0 HC4 CC HL
  generalize filS p.kind s = sF at *
  generalize (p.kind == 1 || p.kind == 2) = pa at *
  generalize (p.kind == 2) = pb at *
  generalize (p.kind == 3) = pc at *
  obtain ⟨pF, hpF⟩ : ∃ pF, filP p s = pF := ⟨_, rfl⟩
  rw [hpF] at CF HR0 HC4 HO1 CI CC HL HPO HGt
  clear hpF
  obtain ⟨kind, ⟨t, f, q⟩, hops, no, to, index, total, stamp, value, ad0, cap0, body⟩ := p
  obtain ⟨kind1, ⟨t1, f1, q1⟩, hops1, no1, to1, index1, total1, stamp1, value1, ad1, cap1, body1⟩ := pF
  unfold Pk.cells zero at hW1 HS3 HC3 CF HR0 HC4 CC HL
  unfold Pk.cells at HO1 HPO
  unfold pval at CF HL HGt
  unfold memP at HPO HL HGt
  unfold pval Pk.cells
  unfold Pk.cells at HGt HL CF
  simp only [List.length_nil, List.getElem?_toArray, List.getElem?_cons_succ, List.getElem?_cons_zero] at CP hW1 HC1 HS3 HC3 CF CE HR0 HC4 HO1 HPO CC HL HGt CI ⊢
  obtain ⟨n, hn⟩ : ∃ n, body.length = n := ⟨_, rfl⟩
  obtain ⟨n1, hn1⟩ : ∃ n1, body1.length = n1 := ⟨_, rfl⟩
  simp only [hn] at hW1 HC1 HS3 HC3 CF HR0 ⊢
  simp only [hn1] at CF HR0 HC4 HO1 HPO CC HL HGt
  clear hn hn1 hs1 h H1
  have hE := HE.out
  have hG := HG.out
  obtain ⟨c0, c1, c2, c3, c4, c5, c6, c7, c8, c9, c10, c11⟩ := HC1.out
  go_enter Tryz.func33, Tryz.ntmps33
  go_upto_region 1 with fail
  rw [← hW1.out]
  go_wp2_with fail
  refine (CP.out _).mono ?_; rintro e w1 ⟨rfl, hB1⟩
  clear c0 c1 c2 c3 c4 c5 c6 c7 c8 c9 c10 c11 CP HC1 hW1
  go_upto_region 2 with fail
  obtain ⟨W2, hW2⟩ : ∃ W2, W2 = w1.alloc (.cells #[.bool pa, .bool pb, .bool pc] 76) := ⟨_, rfl⟩
  have H2 := Lib.hid (HS3.out w1 W2 hB1 hW2)
  rw [← hW2]
  clear hW2 hB1 HS3
  obtain ⟨⟨p0, p1, p2⟩, c0, c1, c2, c3, c4, c5, c6, c7, c8, c9, c10, c11⟩ := HC3.out _ _ H2.out
  go_wp2_with fail
  refine (CF.out _ _ H2.out).mono ?_; rintro e w3 ⟨rfl, H3⟩
  have b3 := Lib.hid H3.out.g2.box
  have H4 := Lib.hid (HR0.out _ _ H3.out)
  clear p0 p1 p2 c0 c1 c2 c3 c4 c5 c6 c7 c8 c9 c10 c11 H2 HC3 CF HR0 hE hG HE HG
  go_upto_region 5 with (refine wpList_store_row rfl 27 _ _ rfl _ #[.int .i64 kind1, .int .i64 t1, .int .i64 f1, .int .u32 q1, .int .i64 hops1, .int .i64 no1, .int .i64 to1, .int .i64 index1, .int .i64 total1, .int .i64 stamp1, .int .i64 value1, .slice ad1 n1 cap1] rfl rfl _ _ b3.out infoPk rfl HO1.out ?_)
  generalize w3.setRow w.heap.size #[.int .i64 kind1, .int .i64 t1, .int .i64 f1, .int .u32 q1, .int .i64 hops1, .int .i64 no1, .int .i64 to1, .int .i64 index1, .int .i64 total1, .int .i64 stamp1, .int .i64 value1, .slice ad1 n1 cap1] = w4 at *
  clear b3 HO1 H3
  go_wp2_with fail
  refine (CE.out _ _ _ _ H4.out).mono ?_; rintro e w' ⟨rfl, rfl⟩
  obtain ⟨⟨p0, p1, p2⟩, c0, c1, c2, c3, c4, c5, c6, c7, c8, c9, c10, c11⟩ := HC4.out _ _ H4.out
  clear CE HC4
  cases pc with
  | false =>
    go_wp2_with fail
    refine (CC.out _ _ H4.out).mono ?_; rintro e w5 ⟨ad2, cap2, rfl, H5, R5⟩
    obtain ⟨b1, b2, b4, F⟩ := HL.out _ w5 ad2 cap2 H5.out R5.out
    have o := Lib.hid (HPO.out ad2 cap2)
    have k11 := H5.out.g2.box.cell 11
    have f11 := H5.out.g2.box.free 11
    simp only [List.getElem?_toArray, List.getElem?_cons_succ, List.getElem?_cons_zero] at k11
    clear c0 c1 c2 c3 c4 c5 c6 c7 c8 c9 c10 c11 p0 p1 p2 CC H5 R5 H4 HL HPO CI
    go_upto_region 11 with fail
    generalize w5.setCell ⟨w.heap.size, 11, none⟩ (.slice ad2 n1 cap2) = w6 at *
    clear k11 f11
    go_wp2_with (first
      | (refine wpList_load_row rfl 27 _ rfl _ rfl _ #[.int .i64 kind1, .int .i64 t1, .int .i64 f1, .int .u32 q1, .int .i64 hops1, .int .i64 no1, .int .i64 to1, .int .i64 index1, .int .i64 total1, .int .i64 stamp1, .int .i64 value1, .slice ad2 n1 cap2] _ _ b1.out Tryz.underlying27 rfl infoPk ?_)
      | (refine wpList_store_row rfl 27 _ _ rfl _ #[.int .i64 kind1, .int .i64 t1, .int .i64 f1, .int .u32 q1, .int .i64 hops1, .int .i64 no1, .int .i64 to1, .int .i64 index1, .int .i64 total1, .int .i64 stamp1, .int .i64 value1, .slice ad2 n1 cap2] rfl rfl _ _ b2.out infoPk rfl o.out ?_))
    exact bodyPost_ret (results_pk2 rfl _ _ (w.heap.size + 1) _ (.int .i64 0) rfl rfl b4.out rfl) rfl (HGt.out _ _ F.out)
  | true =>
    have CI2 := Lib.hid (fun W => CI.out (by simp) W)
    clear CI
    go_wp2_with fail
    refine (CI2.out _).mono ?_; rintro e w4b ⟨rfl, rfl⟩
    go_wp2_with fail
    refine (CC.out _ _ H4.out).mono ?_; rintro e w5 ⟨ad2, cap2, rfl, H5, R5⟩
    obtain ⟨b1, b2, b4, F⟩ := HL.out _ w5 ad2 cap2 H5.out R5.out
    have o := Lib.hid (HPO.out ad2 cap2)
    have k11 := H5.out.g2.box.cell 11
    have f11 := H5.out.g2.box.free 11
    simp only [List.getElem?_toArray, List.getElem?_cons_succ, List.getElem?_cons_zero] at k11
    clear c0 c1 c2 c3 c4 c5 c6 c7 c8 c9 c10 c11 p0 p1 p2 CC H5 R5 H4 HL HPO CI2
    go_upto_region 11 with fail
    generalize w5.setCell ⟨w.heap.size, 11, none⟩ (.slice ad2 n1 cap2) = w6 at *
    clear k11 f11
    go_wp2_with (first
      | (refine wpList_load_row rfl 27 _ rfl _ rfl _ #[.int .i64 kind1, .int .i64 t1, .int .i64 f1, .int .u32 q1, .int .i64 hops1, .int .i64 no1, .int .i64 to1, .int .i64 index1, .int .i64 total1, .int .i64 stamp1, .int .i64 value1, .slice ad2 n1 cap2] _ _ b1.out Tryz.underlying27 rfl infoPk ?_)
      | (refine wpList_store_row rfl 27 _ _ rfl _ #[.int .i64 kind1, .int .i64 t1, .int .i64 f1, .int .u32 q1, .int .i64 hops1, .int .i64 no1, .int .i64 to1, .int .i64 index1, .int .i64 total1, .int .i64 stamp1, .int .i64 value1, .slice ad2 n1 cap2] rfl rfl _ _ b2.out infoPk rfl o.out ?_))
    exact bodyPost_ret (results_pk2 rfl _ _ (w.heap.size + 1) _ (.int .i64 0) rfl rfl b4.out rfl) rfl (HGt.out _ _ F.out)
end Go.Proofs.YtanfnhgaooafeaaGreatDoor.Pul
