/- A chunk is read (layer 13): fill, at any reader. -/
import Derived.Test.YtanfnhgaooafeaaGreatDoorChuX
import Derived.Test.YtanfnhgaooafeaaGreatDoorDatX
import Derived.Deep.RegionWith
namespace Go.Proofs.YtanfnhgaooafeaaGreatDoor.Chu
open Go.ChangeShapes Go.WideShapes Go.ChangeAt Go.RowKit Go.Deep
open Go.Proofs.YtanfnhgaooafeaaGreatDoor.Byt Go.Proofs.YtanfnhgaooafeaaGreatDoor.Key Go.Proofs.YtanfnhgaooafeaaGreatDoor.Buf Go.Proofs.YtanfnhgaooafeaaGreatDoor.Hed Go.Proofs.YtanfnhgaooafeaaGreatDoor.Dat Go.Proofs.YtanfnhgaooafeaaGreatDoor.BufM Go.Proofs.YtanfnhgaooafeaaGreatDoor.Pkt
set_option linter.unusedVariables false
set_option linter.unusedSimpArgs false
theorem g2_away {w W V : World} {g : Nat} {cs ds es : Array Value} {s : Int × List UInt8} (h : G2 w g cs ds s W) (ha : Away (w.heap.size + 1) W V) (hb : Blk V (w.heap.size + 1) 27 es) : G2 w g cs es s V := by
  have hlt := h.lt
  exact ⟨h.rr.behind fun b hb => ha.block b (by omega), (ha.block _ (by omega)).trans h.box, hb, h.lt, ⟨h.step.below.trans (ha.below (by omega)), fun k h1 h2 => (ha.block k (by omega)).trans (h.step.block k h1 h2)⟩⟩
theorem g2_brow {w W : World} {g : Nat} {cs ds : Array Value} {s : Int × List UInt8} (h : G2 w g cs ds s W) (es : Array Value) (hs : cs.size = es.size) : G2 w g es ds s (W.setRow w.heap.size es) := by
  have hlt := h.lt
  refine ⟨h.rr.behind fun b hb => setRow_other _ _ _ _ (by omega), Blk.row h.box es hs, (setRow_other _ _ _ _ (by omega)).trans h.res, h.lt, ⟨below_setRow h.step.below (by omega) _, fun k h1 h2 => ?_⟩⟩
  exact (setRow_other _ _ _ _ (by omega)).trans (h.step.block k h1 h2)
theorem g2_all12 {w W : World} {g : Nat} {v0 v1 v2 v3 v4 v5 v6 v7 v8 v9 v10 v11 : Value} {ds : Array Value} {s : Int × List UInt8} (h : G2 w g #[v0, v1, v2, v3, v4, v5, v6, v7, v8, v9, v10, v11] ds s W) : (W.cell? ⟨w.heap.size, 0, none⟩ = some v0 ∧ W.cell? ⟨w.heap.size, 1, none⟩ = some v1 ∧ W.cell? ⟨w.heap.size, 2, none⟩ = some v2 ∧ W.cell? ⟨w.heap.size, 3, none⟩ = some v3 ∧ W.cell? ⟨w.heap.size, 4, none⟩ = some v4 ∧ W.cell? ⟨w.heap.size, 5, none⟩ = some v5 ∧ W.cell? ⟨w.heap.size, 6, none⟩ = some v6 ∧ W.cell? ⟨w.heap.size, 7, none⟩ = some v7 ∧ W.cell? ⟨w.heap.size, 8, none⟩ = some v8 ∧ W.cell? ⟨w.heap.size, 9, none⟩ = some v9 ∧ W.cell? ⟨w.heap.size, 10, none⟩ = some v10 ∧ W.cell? ⟨w.heap.size, 11, none⟩ = some v11) ∧ (W.frozen? ⟨w.heap.size, 0, none⟩ = false ∧ W.frozen? ⟨w.heap.size, 1, none⟩ = false ∧ W.frozen? ⟨w.heap.size, 2, none⟩ = false ∧ W.frozen? ⟨w.heap.size, 3, none⟩ = false ∧ W.frozen? ⟨w.heap.size, 4, none⟩ = false ∧ W.frozen? ⟨w.heap.size, 5, none⟩ = false ∧ W.frozen? ⟨w.heap.size, 6, none⟩ = false ∧ W.frozen? ⟨w.heap.size, 7, none⟩ = false ∧ W.frozen? ⟨w.heap.size, 8, none⟩ = false ∧ W.frozen? ⟨w.heap.size, 9, none⟩ = false ∧ W.frozen? ⟨w.heap.size, 10, none⟩ = false ∧ W.frozen? ⟨w.heap.size, 11, none⟩ = false) :=
  ⟨⟨h.box.cell 0, h.box.cell 1, h.box.cell 2, h.box.cell 3, h.box.cell 4, h.box.cell 5, h.box.cell 6, h.box.cell 7, h.box.cell 8, h.box.cell 9, h.box.cell 10, h.box.cell 11⟩, h.box.free 0, h.box.free 1, h.box.free 2, h.box.free 3, h.box.free 4, h.box.free 5, h.box.free 6, h.box.free 7, h.box.free 8, h.box.free 9, h.box.free 10, h.box.free 11⟩
theorem g2_copy12 {w W : World} {g : Nat} {v0 v1 v2 v3 v4 v5 v6 v7 v8 v9 v10 v11 : Value} {s : Int × List UInt8} (h : G2 w g #[v0, v1, v2, v3, v4, v5, v6, v7, v8, v9, v10, v11] (Pk.cells zero) s W) : G2 w g #[v0, v1, v2, v3, v4, v5, v6, v7, v8, v9, v10, v11] #[v0, v1, v2, v3, v4, v5, v6, v7, v8, v9, v10, v11] s ((((((((((((W.setCell ⟨w.heap.size + 1, 0, none⟩ v0).setCell ⟨w.heap.size + 1, 1, none⟩ v1).setCell ⟨w.heap.size + 1, 2, none⟩ v2).setCell ⟨w.heap.size + 1, 3, none⟩ v3).setCell ⟨w.heap.size + 1, 4, none⟩ v4).setCell ⟨w.heap.size + 1, 5, none⟩ v5).setCell ⟨w.heap.size + 1, 6, none⟩ v6).setCell ⟨w.heap.size + 1, 7, none⟩ v7).setCell ⟨w.heap.size + 1, 8, none⟩ v8).setCell ⟨w.heap.size + 1, 9, none⟩ v9).setCell ⟨w.heap.size + 1, 10, none⟩ v10).setCell ⟨w.heap.size + 1, 11, none⟩ v11) :=
  g2_away h (row12 zero h.res v0 v1 v2 v3 v4 v5 v6 v7 v8 v9 v10 v11).2 (row12 zero h.res v0 v1 v2 v3 v4 v5 v6 v7 v8 v9 v10 v11).1
/-- What is read behind the number, the node, the place: what is wrong, the reader behind it. -/
def cf3 (x3 x4 : Nat) (s : St) : Int × St := if fnd s (plOk x3 x4) 5 = 0 then ((bytS s 64).1, bytS s 64) else (fnd s (plOk x3 x4) 5, s)
def cf2 (x2 : Nat) (s : St) : Int × St := if fnd s (ndOk x2) 8 = 0 then cf3 (getF s.2 1).1 (getF (fixS s 1).2 1).1 (fixS (fixS s 1) 1) else (fnd s (ndOk x2) 8, s)
def cf1 (x1 : Nat) (s : St) : Int × St := if fnd s (noOk (sg x1)) 2 = 0 then cf2 (getF s.2 1).1 (fixS s 1) else (fnd s (noOk (sg x1)) 2, s)
def cfR (s : St) : Int × St := cf1 (getN s.2).1 (numS s)
theorem cf3_parts (x3 x4 : Nat) (s : St) (R : Int × St) (hR : cf3 x3 x4 s = R) (e : Int) (he : fnd s (plOk x3 x4) 5 = e) : (e = 0 → R = ((bytS s 64).1, bytS s 64)) ∧ (e ≠ 0 → R = (e, s)) := by
  subst hR he
  unfold cf3
  exact ⟨fun h => by rw [if_pos h], fun h => by rw [if_neg h]⟩
theorem cf2_parts (x2 : Nat) (s : St) (R : Int × St) (hR : cf2 x2 s = R) (e : Int) (he : fnd s (ndOk x2) 8 = e) : (e = 0 → cf3 (getF s.2 1).1 (getF (fixS s 1).2 1).1 (fixS (fixS s 1) 1) = R) ∧ (e ≠ 0 → R = (e, s)) := by
  subst hR he
  unfold cf2
  exact ⟨fun h => by rw [if_pos h], fun h => by rw [if_neg h]⟩
theorem cf1_parts (x1 : Nat) (s : St) (R : Int × St) (hR : cf1 x1 s = R) (e : Int) (he : fnd s (noOk (sg x1)) 2 = e) : (e = 0 → cf2 (getF s.2 1).1 (fixS s 1) = R) ∧ (e ≠ 0 → R = (e, s)) := by
  subst hR he
  unfold cf1
  exact ⟨fun h => by rw [if_pos h], fun h => by rw [if_neg h]⟩
/-- The packet with what was read, if all went well. -/
def chF (p : Pk) (s : St) : Pk := { p with no := sg (getN s.2).1, to := (getF (numS s).2 1).1, index := (getF (fixS (numS s) 1).2 1).1, total := (getF (fixS (fixS (numS s) 1) 1).2 1).1, body := (getB (fixS (fixS (fixS (numS s) 1) 1) 1).2 64).1 }
/-- What fill leaves. -/
def FPost (w : World) (g : Nat) (P : Pk) (R : Int × St) (en : Ending) (w' : World) : Prop :=
  ∃ p', en = .returned (.tuple #[pval p', .int .i64 R.1]) ∧ Hid (R.1 = 0 → ∃ ad cap, p' = memP P ad cap ∧ OwnB w' (w.heap.size + 2) (.slice ad P.body.length cap) P.body) ∧ Hid (RR w' g R.2) ∧ Hid (RStep w w' g)
set_option maxRecDepth 100000 in
set_option maxHeartbeats 4000000 in
theorem cfill_any (p : Pk) (g : Nat) (s : St) (w : World) (h : RR w g s) :
    Calls Tryz.prog 79 #[.pointer (some ⟨g, 0, none⟩), pval p] w (FPost w g (chF p s) (cfR s)) := by
  obtain ⟨W1, hW1⟩ : ∃ W1, Hid (W1 = (w.alloc (.cells p.cells 27)).alloc (.cells (Pk.cells zero) 27)) := ⟨_, Lib.hid rfl⟩
  have H1 := Lib.hid (G2.start h _ _ hW1.out)
  have CB : Hid (∀ W s' cs ds, G2 w g cs ds s' W → Calls Tryz.prog 98 #[.pointer (some ⟨g, 0, none⟩)] W fun e w' => e = .returned (.int .u8 (((getF s'.2 1).1 : Nat) : Int)) ∧ Hid (G2 w g cs ds (fixS s' 1) w')) := Lib.hid (fun W s' cs ds hg => (rbyte_any g s' W hg.rr).mono fun e w' hh => hg.next hh)
  have CY : Hid (∀ W s' cs ds, G2 w g cs ds s' W → Calls Tryz.prog 73 #[.pointer (some ⟨g, 0, none⟩), .int .i64 64] W fun e w' => ∃ ad cap, e = .returned (.slice ad (getB s'.2 64).1.length cap) ∧ Hid (OwnB w' (w.heap.size + 2) (.slice ad (getB s'.2 64).1.length cap) (getB s'.2 64).1) ∧ Hid (G2 w g cs ds (bytS s' 64) w')) := Lib.hid (fun W s' cs ds hg => (rbytes_any g s' 64 W hg.rr (by omega)).mono fun e w' hq => by
    obtain ⟨v, rfl, ho, h1, h2⟩ := hq
    obtain ⟨ad, cap, rfl, -⟩ := Own.shape ho
    exact ⟨ad, cap, rfl, Lib.hid (Own.mono ho (by have := hg.res.lt; omega)), Lib.hid (hg.go h1 h2)⟩)
  have CFd : Hid (∀ W s' cs ds b wr, G2 w g cs ds s' W → Calls Tryz.prog 97 #[.pointer (some ⟨g, 0, none⟩), .bool b, .int .i64 wr] W fun e w' => e = .returned (.int .i64 (fnd s' b wr)) ∧ W = w') := Lib.hid (fun W s' cs ds b wr hg => cfound_any g s' b wr W hg.rr)
  have CEr : Hid (∀ W s' cs ds, G2 w g cs ds s' W → Calls Tryz.prog 69 #[.pointer (some ⟨g, 0, none⟩)] W fun e w' => e = .returned (.int .i64 s'.1) ∧ W = w') := Lib.hid (fun W s' cs ds hg => Buf.err_any g s' W hg.rr)
  have CN : Hid (Calls Tryz.prog 75 #[.pointer (some ⟨g, 0, none⟩)] W1 fun e w' => e = .returned (.int .u64 (((getN s.2).1 : Nat) : Int)) ∧ Hid (G2 w g p.cells (Pk.cells zero) (numS s) w')) := Lib.hid ((rnum_any g s W1 H1.out.rr).mono fun e w' hp => H1.out.next hp)
  have CO := Lib.hid (fun n W => cisno_any n W)
  have CT := Lib.hid (fun n W => cisnode_any n W)
  have CP := Lib.hid (fun i t W => cisplace_any i t W)
  have HR := Lib.hid (show cf1 (getN s.2).1 (numS s) = cfR s from rfl)
  have HPk := Lib.hid (show chF p s = { p with no := sg (getN s.2).1, to := (getF (numS s).2 1).1, index := (getF (fixS (numS s) 1).2 1).1, total := (getF (fixS (fixS (numS s) 1) 1).2 1).1, body := (getB (fixS (fixS (fixS (numS s) 1) 1) 1).2 64).1 } from rfl)
  generalize cfR s = R at *
  generalize chF p s = P at *
  have HBad : Hid (∀ e s' cs (q : Pk) W, e ≠ 0 → R = (e, s') → G2 w g cs q.cells s' W → FPost w g P R (.returned (.tuple #[pval q, .int .i64 e])) W) := Lib.hid (fun e s' cs q W he hR hg => by
    subst hR
    exact ⟨q, rfl, Lib.hid (fun h0 => absurd h0 he), Lib.hid hg.rr, Lib.hid hg.step⟩)
  have HGood : Hid (∀ e s' cs ad cap W, R = (e, s') → OwnB W (w.heap.size + 2) (.slice ad P.body.length cap) P.body → G2 w g cs (memP P ad cap).cells s' W → FPost w g P R (.returned (.tuple #[pval (memP P ad cap), .int .i64 e])) W) := Lib.hid (fun e s' cs ad cap W hR ho hg => by
    subst hR
    exact ⟨_, rfl, Lib.hid (fun _ => ⟨ad, cap, rfl, ho⟩), Lib.hid hg.rr, Lib.hid hg.step⟩)
  generalize FPost w g P R = Fin at *
  obtain ⟨x1, hx1⟩ : ∃ x, (getN s.2).1 = x := ⟨_, rfl⟩
  rw [hx1] at CN HR HPk
  have hv1 : Hid (IntKind.i64.wrap (x1 : Int) = sg x1) := Lib.hid rfl
  have P1 := Lib.hid (fun e he => cf1_parts x1 _ R HR.out e he)
  generalize numS s = s1 at *
  generalize sg x1 = v1 at *
  obtain ⟨kind, ⟨t, f, q⟩, hops, no, to, index, total, stamp, value, ad, cap, body⟩ := p
  have HBad := Lib.hid (fun e s' cs no to index total W he hR hg => HBad.out e s' cs ⟨kind, (t, f, q), hops, no, to, index, total, stamp, value, ad, cap, body⟩ W he hR hg)
  simp only at HPk CN
  unfold Pk.cells zero at hW1 CN
  unfold pval Pk.cells at HBad
  unfold pval Pk.cells
  have HAll := Lib.hid (fun cs ds s' W (hg : G2 w g cs ds s' W) => hg)
  simp only [List.length_nil] at hW1 CN HBad ⊢
  obtain ⟨n, hn⟩ : ∃ n, body.length = n := ⟨_, rfl⟩
  simp only [hn] at hW1 CN HBad ⊢
  clear hn h H1 HAll
  go_enter Tryz.func79, Tryz.ntmps79
  go_upto_region 1 with fail
  rw [← hW1.out]
  clear hW1
  go_wp2_with fail
  refine (CN.out).mono ?_; rintro e w2 ⟨rfl, H2⟩
  obtain ⟨⟨c0, c1, c2, c3, c4, c5, c6, c7, c8, c9, c10, c11⟩, f0, f1, f2, f3, f4, f5, f6, f7, f8, f9, f10, f11⟩ := g2_all12 H2.out
  have H3 := Lib.hid (H2.out.put 5 (.int .i64 v1))
  simp only [List.setIfInBounds_toArray, List.set_cons_zero, List.set_cons_succ] at H3
  have hw0 := hv1.out
  go_upto_region 2 with fail
  clear hw0
  try rw [hv1.out]
  generalize w2.setCell ⟨w.heap.size, 5, none⟩ (.int .i64 v1) = w3 at *
  clear c0 c1 c2 c3 c4 c5 c6 c7 c8 c9 c10 c11 f0 f1 f2 f3 f4 f5 f6 f7 f8 f9 f10 f11
  clear CN H2
  obtain ⟨⟨c0, c1, c2, c3, c4, c5, c6, c7, c8, c9, c10, c11⟩, f0, f1, f2, f3, f4, f5, f6, f7, f8, f9, f10, f11⟩ := g2_all12 H3.out
  go_wp2_with fail
  refine (CO.out _ _).mono ?_; rintro e w' ⟨rfl, rfl⟩
  go_wp2_with fail
  refine (CFd.out _ _ _ _ _ _ H3.out).mono ?_; rintro e w' ⟨rfl, rfl⟩
  obtain ⟨e1, he1⟩ : ∃ e1, Hid (fnd s1 (noOk v1) 2 = e1) := ⟨_, Lib.hid rfl⟩
  rw [he1.out]
  have P1 := Lib.hid (P1.out e1 he1.out)
  clear he1 CO HR
  by_cases hz1 : e1 = 0
  case neg =>
    have hne : (e1 != 0) = true := by simpa using hz1
    have hR := P1.out.2 hz1
    have b1 := Lib.hid H3.out.box
    have b2 := Lib.hid H3.out.res
    have O := Lib.hid (row_one kind t f q hops v1 to index total stamp value ad n cap)
    have HX := Lib.hid (H3.out.row #[.int .i64 kind, .int .i64 t, .int .i64 f, .int .u32 q, .int .i64 hops, .int .i64 v1, .int .i64 to, .int .i64 index, .int .i64 total, .int .i64 stamp, .int .i64 value, .slice ad n cap] rfl)
    have b4 := Lib.hid HX.out.res
    have hF := Lib.hid (HBad.out e1 _ _ _ _ _ _ _ hz1 hR HX.out)
    clear CB CY CFd CEr HBad HGood P1 hz1
    go_wp2_with (first
      | (refine wpList_load_row rfl 27 _ rfl _ rfl _ #[.int .i64 kind, .int .i64 t, .int .i64 f, .int .u32 q, .int .i64 hops, .int .i64 v1, .int .i64 to, .int .i64 index, .int .i64 total, .int .i64 stamp, .int .i64 value, .slice ad n cap] _ _ b1.out Tryz.underlying27 rfl infoPk ?_)
      | (refine wpList_store_row rfl 27 _ _ rfl _ #[.int .i64 kind, .int .i64 t, .int .i64 f, .int .u32 q, .int .i64 hops, .int .i64 v1, .int .i64 to, .int .i64 index, .int .i64 total, .int .i64 stamp, .int .i64 value, .slice ad n cap] rfl rfl _ _ b2.out infoPk rfl O.out ?_))
    exact bodyPost_ret (results_pk2 rfl _ _ (w.heap.size + 1) _ (.int .i64 e1) rfl rfl b4.out rfl) rfl hF.out
  case pos =>
    subst hz1
    have HR := Lib.hid (P1.out.1 (by simp))
    clear P1
    have hx2 := getF_byte s1.2
    have C2 := Lib.hid (CB.out _ s1 _ _ H3.out)
    generalize (getF s1.2 1).1 = x2 at *
    generalize fixS s1 1 = s2 at *
    clear c0 c1 c2 c3 c4 c5 c6 c7 c8 c9 c10 c11 f0 f1 f2 f3 f4 f5 f6 f7 f8 f9 f10 f11
    go_wp2_with fail
    refine (C2.out).mono ?_; rintro e w4 ⟨rfl, H4⟩
    obtain ⟨⟨c0, c1, c2, c3, c4, c5, c6, c7, c8, c9, c10, c11⟩, f0, f1, f2, f3, f4, f5, f6, f7, f8, f9, f10, f11⟩ := g2_all12 H4.out
    have H5 := Lib.hid (H4.out.put 6 (.int .i64 (x2 : Int)))
    simp only [List.setIfInBounds_toArray, List.set_cons_zero, List.set_cons_succ] at H5
    go_upto_region 6 with fail
    generalize w4.setCell ⟨w.heap.size, 6, none⟩ (.int .i64 (x2 : Int)) = w5 at *
    clear c0 c1 c2 c3 c4 c5 c6 c7 c8 c9 c10 c11 f0 f1 f2 f3 f4 f5 f6 f7 f8 f9 f10 f11
    clear C2 H3 H4
    have P2 := Lib.hid (fun e he => cf2_parts x2 s2 R HR.out e he)
    clear HR
    obtain ⟨⟨c0, c1, c2, c3, c4, c5, c6, c7, c8, c9, c10, c11⟩, f0, f1, f2, f3, f4, f5, f6, f7, f8, f9, f10, f11⟩ := g2_all12 H5.out
    go_wp2_with fail
    refine (CT.out _ _).mono ?_; rintro e w' ⟨rfl, rfl⟩
    go_wp2_with fail
    refine (CFd.out _ _ _ _ _ _ H5.out).mono ?_; rintro e w' ⟨rfl, rfl⟩
    obtain ⟨e2, he2⟩ : ∃ e2, Hid (fnd s2 (ndOk (x2 : Int)) 8 = e2) := ⟨_, Lib.hid rfl⟩
    rw [he2.out]
    have P2 := Lib.hid (P2.out e2 he2.out)
    clear he2 CT
    by_cases hz2 : e2 = 0
    case neg =>
      have hne : (e2 != 0) = true := by simpa using hz2
      have hR := P2.out.2 hz2
      have b1 := Lib.hid H5.out.box
      have b2 := Lib.hid H5.out.res
      have O := Lib.hid (row_one kind t f q hops v1 (x2 : Int) index total stamp value ad n cap)
      have HX := Lib.hid (H5.out.row #[.int .i64 kind, .int .i64 t, .int .i64 f, .int .u32 q, .int .i64 hops, .int .i64 v1, .int .i64 (x2 : Int), .int .i64 index, .int .i64 total, .int .i64 stamp, .int .i64 value, .slice ad n cap] rfl)
      have b4 := Lib.hid HX.out.res
      have hF := Lib.hid (HBad.out e2 _ _ _ _ _ _ _ hz2 hR HX.out)
      clear CB CY CFd CEr HBad HGood P2 hz2
      go_wp2_with (first
        | (refine wpList_load_row rfl 27 _ rfl _ rfl _ #[.int .i64 kind, .int .i64 t, .int .i64 f, .int .u32 q, .int .i64 hops, .int .i64 v1, .int .i64 (x2 : Int), .int .i64 index, .int .i64 total, .int .i64 stamp, .int .i64 value, .slice ad n cap] _ _ b1.out Tryz.underlying27 rfl infoPk ?_)
        | (refine wpList_store_row rfl 27 _ _ rfl _ #[.int .i64 kind, .int .i64 t, .int .i64 f, .int .u32 q, .int .i64 hops, .int .i64 v1, .int .i64 (x2 : Int), .int .i64 index, .int .i64 total, .int .i64 stamp, .int .i64 value, .slice ad n cap] rfl rfl _ _ b2.out infoPk rfl O.out ?_))
      exact bodyPost_ret (results_pk2 rfl _ _ (w.heap.size + 1) _ (.int .i64 e2) rfl rfl b4.out rfl) rfl hF.out
    case pos =>
      subst hz2
      have HR := Lib.hid (P2.out.1 (by simp))
      clear P2
      have hx3 := getF_byte s2.2
      have C3 := Lib.hid (CB.out _ s2 _ _ H5.out)
      generalize (getF s2.2 1).1 = x3 at *
      generalize fixS s2 1 = s3 at *
      clear c0 c1 c2 c3 c4 c5 c6 c7 c8 c9 c10 c11 f0 f1 f2 f3 f4 f5 f6 f7 f8 f9 f10 f11
      go_wp2_with fail
      refine (C3.out).mono ?_; rintro e w6 ⟨rfl, H6⟩
      obtain ⟨⟨c0, c1, c2, c3, c4, c5, c6, c7, c8, c9, c10, c11⟩, f0, f1, f2, f3, f4, f5, f6, f7, f8, f9, f10, f11⟩ := g2_all12 H6.out
      have H7 := Lib.hid (H6.out.put 7 (.int .i64 (x3 : Int)))
      simp only [List.setIfInBounds_toArray, List.set_cons_zero, List.set_cons_succ] at H7
      go_upto_region 10 with fail
      generalize w6.setCell ⟨w.heap.size, 7, none⟩ (.int .i64 (x3 : Int)) = w7 at *
      clear c0 c1 c2 c3 c4 c5 c6 c7 c8 c9 c10 c11 f0 f1 f2 f3 f4 f5 f6 f7 f8 f9 f10 f11
      clear C3 H5 H6
      have hx4 := getF_byte s3.2
      have C4 := Lib.hid (CB.out _ s3 _ _ H7.out)
      generalize (getF s3.2 1).1 = x4 at *
      generalize fixS s3 1 = s4 at *
      go_wp2_with fail
      refine (C4.out).mono ?_; rintro e w8 ⟨rfl, H8⟩
      obtain ⟨⟨c0, c1, c2, c3, c4, c5, c6, c7, c8, c9, c10, c11⟩, f0, f1, f2, f3, f4, f5, f6, f7, f8, f9, f10, f11⟩ := g2_all12 H8.out
      have H9 := Lib.hid (H8.out.put 8 (.int .i64 (x4 : Int)))
      simp only [List.setIfInBounds_toArray, List.set_cons_zero, List.set_cons_succ] at H9
      go_upto_region 11 with fail
      generalize w8.setCell ⟨w.heap.size, 8, none⟩ (.int .i64 (x4 : Int)) = w9 at *
      clear c0 c1 c2 c3 c4 c5 c6 c7 c8 c9 c10 c11 f0 f1 f2 f3 f4 f5 f6 f7 f8 f9 f10 f11
      clear C4 H7 H8
      have P3 := Lib.hid (fun e he => cf3_parts x3 x4 s4 R HR.out e he)
      clear HR
      obtain ⟨⟨c0, c1, c2, c3, c4, c5, c6, c7, c8, c9, c10, c11⟩, f0, f1, f2, f3, f4, f5, f6, f7, f8, f9, f10, f11⟩ := g2_all12 H9.out
      go_wp2_with fail
      refine (CP.out _ _ _).mono ?_; rintro e w' ⟨rfl, rfl⟩
      go_wp2_with fail
      refine (CFd.out _ _ _ _ _ _ H9.out).mono ?_; rintro e w' ⟨rfl, rfl⟩
      obtain ⟨e3, he3⟩ : ∃ e3, Hid (fnd s4 (plOk (x3 : Int) (x4 : Int)) 5 = e3) := ⟨_, Lib.hid rfl⟩
      rw [he3.out]
      have P3 := Lib.hid (P3.out e3 he3.out)
      clear he3 CP
      by_cases hz3 : e3 = 0
      case neg =>
        have hne : (e3 != 0) = true := by simpa using hz3
        have hR := P3.out.2 hz3
        have b1 := Lib.hid H9.out.box
        have b2 := Lib.hid H9.out.res
        have O := Lib.hid (row_one kind t f q hops v1 (x2 : Int) (x3 : Int) (x4 : Int) stamp value ad n cap)
        have HX := Lib.hid (H9.out.row #[.int .i64 kind, .int .i64 t, .int .i64 f, .int .u32 q, .int .i64 hops, .int .i64 v1, .int .i64 (x2 : Int), .int .i64 (x3 : Int), .int .i64 (x4 : Int), .int .i64 stamp, .int .i64 value, .slice ad n cap] rfl)
        have b4 := Lib.hid HX.out.res
        have hF := Lib.hid (HBad.out e3 _ _ _ _ _ _ _ hz3 hR HX.out)
        clear CB CY CFd CEr HBad HGood P3 hz3
        go_wp2_with (first
          | (refine wpList_load_row rfl 27 _ rfl _ rfl _ #[.int .i64 kind, .int .i64 t, .int .i64 f, .int .u32 q, .int .i64 hops, .int .i64 v1, .int .i64 (x2 : Int), .int .i64 (x3 : Int), .int .i64 (x4 : Int), .int .i64 stamp, .int .i64 value, .slice ad n cap] _ _ b1.out Tryz.underlying27 rfl infoPk ?_)
          | (refine wpList_store_row rfl 27 _ _ rfl _ #[.int .i64 kind, .int .i64 t, .int .i64 f, .int .u32 q, .int .i64 hops, .int .i64 v1, .int .i64 (x2 : Int), .int .i64 (x3 : Int), .int .i64 (x4 : Int), .int .i64 stamp, .int .i64 value, .slice ad n cap] rfl rfl _ _ b2.out infoPk rfl O.out ?_))
        exact bodyPost_ret (results_pk2 rfl _ _ (w.heap.size + 1) _ (.int .i64 e3) rfl rfl b4.out rfl) rfl hF.out
      case pos =>
        subst hz3
        have HR := Lib.hid (P3.out.1 (by simp))
        clear P3
        have CY := Lib.hid (CY.out _ s4 _ _ H9.out)
        generalize (getB s4.2 64).1 = out at *
        generalize bytS s4 64 = s5 at *
        have hP := HPk.out
        subst hP
        unfold memP pval Pk.cells at HGood
        obtain ⟨m, hm⟩ : ∃ m, out.length = m := ⟨_, rfl⟩
        simp only [hm] at HGood CY
        clear hm CB CFd HBad c0 c1 c2 c3 c4 c5 c6 c7 c8 c9 c10 c11 f0 f1 f2 f3 f4 f5 f6 f7 f8 f9 f10 f11
        go_wp2_with fail
        refine (CY.out).mono ?_; rintro e w10 ⟨ad5, cap5, rfl, HO10, H10⟩
        obtain ⟨⟨c0, c1, c2, c3, c4, c5, c6, c7, c8, c9, c10, c11⟩, f0, f1, f2, f3, f4, f5, f6, f7, f8, f9, f10, f11⟩ := g2_all12 H10.out
        have H11 := Lib.hid (H10.out.put 11 (.slice ad5 m cap5))
        simp only [List.setIfInBounds_toArray, List.set_cons_zero, List.set_cons_succ] at H11
        have HO11 := Lib.hid (((Away.refl w.heap.size w10).set 11 (.slice ad5 m cap5)).own HO10.out (by omega))
        clear CY HO10
        go_upto_region 15 with fail
        generalize w10.setCell ⟨w.heap.size, 11, none⟩ (.slice ad5 m cap5) = w11 at *
        clear c0 c1 c2 c3 c4 c5 c6 c7 c8 c9 c10 c11 f0 f1 f2 f3 f4 f5 f6 f7 f8 f9 f10 f11 H9 H10
        have HD := Lib.hid (H11.out.kept (Below.refl _ _).drew)
        have CEr := Lib.hid (CEr.out _ _ _ _ HD.out)
        obtain ⟨⟨c0, c1, c2, c3, c4, c5, c6, c7, c8, c9, c10, c11⟩, f0, f1, f2, f3, f4, f5, f6, f7, f8, f9, f10, f11⟩ := g2_all12 H11.out
        have HC12 := Lib.hid (g2_copy12 H11.out)
        have hres := blk_free H11.out.res
        obtain ⟨g0, g1, g2, g3, g4, g5, g6, g7, g8, g9, g10, g11⟩ := hres
        have hrc := blk_cells (p := zero) H11.out.res
        unfold zero at hrc
        obtain ⟨d0, d1, d2, d3, d4, d5, d6, d7, d8, d9, d10, d11⟩ := hrc
        have HX := Lib.hid (HC12.out.kept (Below.refl _ _).drew)
        have HA := (row12 zero H11.out.res (.int .i64 kind) (.int .i64 t) (.int .i64 f) (.int .u32 q) (.int .i64 hops) (.int .i64 v1) (.int .i64 (x2 : Int)) (.int .i64 (x3 : Int)) (.int .i64 (x4 : Int)) (.int .i64 stamp) (.int .i64 value) (.slice ad5 m cap5)).2
        have HF := Lib.hid (HGood.out _ _ _ ad5 cap5 _ HR.out ((HA.own HO11.out (by omega)).below (Below.refl _ _).drew) HX.out)
        have HB4 := Lib.hid HX.out.res
        clear HD H11 HA HX HC12 HO11 HGood
        refine wp_region_noPanic ?_
        go_region_with (go_at_call 69; refine (CEr.out).mono ?_; rintro e w' ⟨rfl, rfl⟩)
        all_goals
          refine NoPanic.normal ?_
          simp only [Act.put, List.getElem_toArray, List.getElem_cons_succ, List.getElem_cons_zero, List.setIfInBounds_toArray, List.set_cons_zero, List.set_cons_succ]
          go_wp2_with fail
          exact bodyPost_ret (results_pk2 rfl _ _ (w.heap.size + 1) _ (.int .i64 s5.1) rfl rfl HB4.out rfl) rfl HF.out
end Go.Proofs.YtanfnhgaooafeaaGreatDoor.Chu
