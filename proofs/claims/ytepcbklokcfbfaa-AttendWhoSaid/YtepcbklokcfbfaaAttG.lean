/- Get (layer 12), at any reader. -/
import Derived.Test.YtepcbklokcfbfaaAttP
import Derived.Test.YtepcbklokcfbfaaHedG
import Derived.Test.YtepcbklokcfbfaaBufG
namespace Go.Proofs.Ytepcbklokcfbfaa.Att
open Go.ChangeShapes Go.WideShapes Go.ChangeAt Go.RowKit Go.Deep
open Go.Proofs.Ytepcbklokcfbfaa.Byt Go.Proofs.Ytepcbklokcfbfaa.Key Go.Proofs.Ytepcbklokcfbfaa.Buf Go.Proofs.Ytepcbklokcfbfaa.Hed Go.Proofs.Ytepcbklokcfbfaa.Dat Go.Proofs.Ytepcbklokcfbfaa.BufM Go.Proofs.Ytepcbklokcfbfaa.Pkt
set_option linter.unusedVariables false
set_option linter.unusedSimpArgs false
set_option maxRecDepth 100000 in
set_option maxHeartbeats 2000000 in
theorem aget_err (p : Pk) (g : Nat) (s : Int × List UInt8) (w : World) (h : RR w g s) (he : (numS s).1 ≠ 0) :
    Calls Try.prog 19 #[.pointer (some ⟨g, 0, none⟩), pval p] w (RPost w g (numS s) (.tuple #[pval zero, .int .i64 (numS s).1])) := by
  obtain ⟨W1, hW1⟩ : ∃ W1, Hid (W1 = (w.alloc (.cells p.cells 27)).alloc (.cells (Pk.cells zero) 27)) := ⟨_, Lib.hid rfl⟩
  have H1 := Lib.hid (G2.start h _ _ hW1.out)
  have CN : Hid (Calls Try.prog 33 #[.pointer (some ⟨g, 0, none⟩)] W1 fun e w' => e = .returned (.int .u64 (((getN s.2).1 : Nat) : Int)) ∧ Hid (G2 w g p.cells (Pk.cells zero) (numS s) w')) := Lib.hid ((rnum_any g s W1 H1.out.rr).mono fun e w' hp => H1.out.next hp)
  have CE : Hid (∀ W cs ds, G2 w g cs ds (numS s) W → Calls Try.prog 34 #[.pointer (some ⟨g, 0, none⟩)] W fun e w' => e = .returned (.int .i64 (numS s).1) ∧ W = w') := Lib.hid (fun W cs ds hG => err_any g (numS s) W hG.rr)
  have HP : Hid (∀ W cs ds, G2 w g cs ds (numS s) W → RPost w g (numS s) (.tuple #[pval zero, .int .i64 (numS s).1]) (.returned (.tuple #[pval zero, .int .i64 (numS s).1])) W) := Lib.hid (fun W cs ds hG => hG.rpost _)
  have HPO := Lib.hid zeroP_one
  generalize RPost w g (numS s) (.tuple #[pval zero, .int .i64 (numS s).1]) = Got at *
  obtain ⟨er, her⟩ : ∃ er, (numS s).1 = er := ⟨_, rfl⟩
  rw [her] at he CE HP
  have hne : (er != 0) = true := by simpa using he
  clear her he
  generalize numS s = sF at *
  generalize (((getN s.2).1 : Nat) : Int) = x at *
  obtain ⟨kind, ⟨t, f, q⟩, hops, no, to, index, total, stamp, value, ad0, cap0, body⟩ := p
  unfold Pk.cells zero at hW1 CN HPO
  unfold pval Pk.cells zero at HP
  unfold pval Pk.cells
  simp only [List.length_nil] at hW1 CN HP HPO ⊢
  obtain ⟨n, hn⟩ : ∃ n, body.length = n := ⟨_, rfl⟩
  simp only [hn] at hW1 CN ⊢
  clear hn h H1
  go_enter Try.func19, Try.ntmps19
  go_upto_region 1 with fail
  rw [← hW1.out]
  go_wp2_with fail
  refine (CN.out).mono ?_; rintro e w2 ⟨rfl, H2⟩
  clear CN hW1
  go_wp2_with fail
  refine (CE.out _ _ _ H2.out).mono ?_; rintro e w3 ⟨rfl, rfl⟩
  have b2 := Lib.hid H2.out.res
  have HG4 := Lib.hid (H2.out.row #[.int .i64 0, .int .i64 0, .int .i64 0, .int .u32 0, .int .i64 0, .int .i64 0, .int .i64 0, .int .i64 0, .int .i64 0, .int .i64 0, .int .i64 0, .slice none 0 0] rfl)
  have b4 := Lib.hid HG4.out.res
  clear CE H2
  go_wp2_with (refine wpList_store_row rfl 27 _ _ rfl _ #[.int .i64 0, .int .i64 0, .int .i64 0, .int .u32 0, .int .i64 0, .int .i64 0, .int .i64 0, .int .i64 0, .int .i64 0, .int .i64 0, .int .i64 0, .slice none 0 0] rfl rfl _ _ b2.out infoPk rfl HPO.out ?_)
  exact bodyPost_ret (results_pk2 rfl _ _ (w.heap.size + 1) _ (.int .i64 er) rfl rfl b4.out rfl) rfl (HP.out _ _ _ HG4.out)
set_option maxRecDepth 100000 in
set_option maxHeartbeats 2000000 in
theorem aget_range (p : Pk) (g : Nat) (s : Int × List UInt8) (w : World) (h : RR w g s) (he : (numS s).1 = 0) (hx : 1152921504606846976 < (getN s.2).1) :
    Calls Try.prog 19 #[.pointer (some ⟨g, 0, none⟩), pval p] w (RPost w g (numS s) (.tuple #[pval zero, .int .i64 2])) := by
  obtain ⟨W1, hW1⟩ : ∃ W1, Hid (W1 = (w.alloc (.cells p.cells 27)).alloc (.cells (Pk.cells zero) 27)) := ⟨_, Lib.hid rfl⟩
  have H1 := Lib.hid (G2.start h _ _ hW1.out)
  have CN : Hid (Calls Try.prog 33 #[.pointer (some ⟨g, 0, none⟩)] W1 fun e w' => e = .returned (.int .u64 (((getN s.2).1 : Nat) : Int)) ∧ Hid (G2 w g p.cells (Pk.cells zero) (numS s) w')) := Lib.hid ((rnum_any g s W1 H1.out.rr).mono fun e w' hp => H1.out.next hp)
  have CE : Hid (∀ W cs ds, G2 w g cs ds (numS s) W → Calls Try.prog 34 #[.pointer (some ⟨g, 0, none⟩)] W fun e w' => e = .returned (.int .i64 (numS s).1) ∧ W = w') := Lib.hid (fun W cs ds hG => err_any g (numS s) W hG.rr)
  have HP : Hid (∀ W cs ds, G2 w g cs ds (numS s) W → RPost w g (numS s) (.tuple #[pval zero, .int .i64 2]) (.returned (.tuple #[pval zero, .int .i64 2])) W) := Lib.hid (fun W cs ds hG => hG.rpost _)
  have HPO := Lib.hid zeroP_one
  generalize RPost w g (numS s) (.tuple #[pval zero, .int .i64 2]) = Got at *
  rw [he] at CE
  have hx1 : decide ((((getN s.2).1 : Nat) : Int) > 1152921504606846976) = true := decide_eq_true (by omega)
  have hx2 : decide (1152921504606846976 < (((getN s.2).1 : Nat) : Int)) = true := hx1
  clear he hx
  generalize numS s = sF at *
  generalize (((getN s.2).1 : Nat) : Int) = x at *
  obtain ⟨kind, ⟨t, f, q⟩, hops, no, to, index, total, stamp, value, ad0, cap0, body⟩ := p
  unfold Pk.cells zero at hW1 CN HPO
  unfold pval Pk.cells zero at HP
  unfold pval Pk.cells
  simp only [List.length_nil] at hW1 CN HP HPO ⊢
  obtain ⟨n, hn⟩ : ∃ n, body.length = n := ⟨_, rfl⟩
  simp only [hn] at hW1 CN ⊢
  clear hn h H1
  go_enter Try.func19, Try.ntmps19
  go_upto_region 1 with fail
  rw [← hW1.out]
  go_wp2_with fail
  refine (CN.out).mono ?_; rintro e w2 ⟨rfl, H2⟩
  clear CN hW1
  go_wp2_with fail
  refine (CE.out _ _ _ H2.out).mono ?_; rintro e w3 ⟨rfl, rfl⟩
  have b2 := Lib.hid H2.out.res
  have HG4 := Lib.hid (H2.out.row #[.int .i64 0, .int .i64 0, .int .i64 0, .int .u32 0, .int .i64 0, .int .i64 0, .int .i64 0, .int .i64 0, .int .i64 0, .int .i64 0, .int .i64 0, .slice none 0 0] rfl)
  have b4 := Lib.hid HG4.out.res
  clear CE H2
  go_wp2_with (refine wpList_store_row rfl 27 _ _ rfl _ #[.int .i64 0, .int .i64 0, .int .i64 0, .int .u32 0, .int .i64 0, .int .i64 0, .int .i64 0, .int .i64 0, .int .i64 0, .int .i64 0, .int .i64 0, .slice none 0 0] rfl rfl _ _ b2.out infoPk rfl HPO.out ?_)
  exact bodyPost_ret (results_pk2 rfl _ _ (w.heap.size + 1) _ (.int .i64 2) rfl rfl b4.out rfl) rfl (HP.out _ _ _ HG4.out)
/-- The packet with the number that was read, its body elsewhere. -/
def noP (p : Pk) (x : Nat) (ad : Option Addr) (cap : Nat) : Pk := { p with no := sg x, ad := ad, cap := cap }
/-- What Get leaves where it went well. -/
def AGot (p : Pk) (g : Nat) (s : Int × List UInt8) (w : World) (e : Ending) (w' : World) : Prop :=
  ∃ ad cap, e = .returned (.tuple #[pval (noP p (getN s.2).1 ad cap), .int .i64 0]) ∧ Hid (RdB w' ad p.body) ∧ Hid (RR w' g (numS s)) ∧ Hid (RStep w w' g)
set_option maxRecDepth 100000 in
set_option maxHeartbeats 4000000 in
theorem aget_ok (p : Pk) (g : Nat) (s : Int × List UInt8) (w : World) (h : RR w g s) (he : (numS s).1 = 0) (hx : (getN s.2).1 ≤ 1152921504606846976) (hr : RdB w p.ad p.body) (hn : p.ad = none → p.cap = 0) (hle : p.body.length ≤ p.cap) (hm : p.cap ≤ 140737488355328) :
    Calls Try.prog 19 #[.pointer (some ⟨g, 0, none⟩), pval p] w (AGot p g s w) := by
  obtain ⟨W1, hW1⟩ : ∃ W1, Hid (W1 = (w.alloc (.cells p.cells 27)).alloc (.cells (Pk.cells zero) 27)) := ⟨_, Lib.hid rfl⟩
  have H1 := Lib.hid (G2.start h _ _ hW1.out)
  have CN : Hid (Calls Try.prog 33 #[.pointer (some ⟨g, 0, none⟩)] W1 fun e w' => e = .returned (.int .u64 (((getN s.2).1 : Nat) : Int)) ∧ Hid (G2 w g p.cells (Pk.cells zero) (numS s) w')) := Lib.hid ((rnum_any g s W1 H1.out.rr).mono fun e w' hp => H1.out.next hp)
  have CE : Hid (∀ W cs ds, G2 w g cs ds (numS s) W → Calls Try.prog 34 #[.pointer (some ⟨g, 0, none⟩)] W fun e w' => e = .returned (.int .i64 0) ∧ W = w') := Lib.hid (fun W cs ds hG => by
    have := err_any g (numS s) W hG.rr
    rwa [he] at this)
  have CC : Hid (∀ W cs ds, G2 w g cs ds (numS s) W → Calls Try.prog 35 #[.slice p.ad p.body.length p.cap] W fun e w' => ∃ ad cap, e = .returned (.slice ad p.body.length cap) ∧ Hid (G2 w g cs ds (numS s) w') ∧ Hid (RdB w' ad p.body)) := Lib.hid (fun W cs ds hG => by
    have hrW : RdB W p.ad p.body := rd_reader hr hG.step h
    refine (clone_any p.ad p.body.length p.cap p.body W rfl hle hm hrW hn).mono fun e w' hh => ?_
    obtain ⟨ad, cap, rfl, q1, q2⟩ := hh
    exact ⟨ad, cap, rfl, Lib.hid (hG.kept q2), Lib.hid q1⟩)
  have HO1 : Hid (∀ ad cap, (noP p (getN s.2).1 ad cap).cells.all (·.oneCell') = true) := Lib.hid (fun ad cap => pkP_one _)
  have HN : Hid (∀ W, G2 w g p.cells (Pk.cells zero) (numS s) W → Hid (W.cell? ⟨w.heap.size, 5, none⟩ = some (.int .i64 p.no) ∧ W.frozen? ⟨w.heap.size, 5, none⟩ = false ∧ G2 w g (noP p (getN s.2).1 p.ad p.cap).cells (Pk.cells zero) (numS s) (W.setCell ⟨w.heap.size, 5, none⟩ (.int .i64 (sg (getN s.2).1))))) := Lib.hid (fun W hG => by
    have q1 := hG.put 5 (.int .i64 (sg (getN s.2).1))
    have e : p.cells.setIfInBounds 5 (.int .i64 (sg (getN s.2).1)) = (noP p (getN s.2).1 p.ad p.cap).cells := by
      unfold noP Pk.cells
      simp only [List.setIfInBounds_toArray, List.set_cons_zero, List.set_cons_succ]
    rw [e] at q1
    exact Lib.hid ⟨hG.box.cell 5, hG.box.free 5, q1⟩)
  have HL : Hid (∀ W ad cap, G2 w g (noP p (getN s.2).1 p.ad p.cap).cells (Pk.cells zero) (numS s) W → RdB W ad p.body → Hid (Blk (W.setCell ⟨w.heap.size, 11, none⟩ (.slice ad p.body.length cap)) w.heap.size 27 (noP p (getN s.2).1 ad cap).cells) ∧ Hid (Blk (W.setCell ⟨w.heap.size, 11, none⟩ (.slice ad p.body.length cap)) (w.heap.size + 1) 27 (Pk.cells zero)) ∧ Hid (Blk ((W.setCell ⟨w.heap.size, 11, none⟩ (.slice ad p.body.length cap)).setRow (w.heap.size + 1) (noP p (getN s.2).1 ad cap).cells) (w.heap.size + 1) 27 (noP p (getN s.2).1 ad cap).cells) ∧ Hid (AGot p g s w (.returned (.tuple #[pval (noP p (getN s.2).1 ad cap), .int .i64 0])) ((W.setCell ⟨w.heap.size, 11, none⟩ (.slice ad p.body.length cap)).setRow (w.heap.size + 1) (noP p (getN s.2).1 ad cap).cells))) := Lib.hid (fun W ad cap hG hrd => by
    have q1 := hG.put 11 (.slice ad p.body.length cap)
    have e : (noP p (getN s.2).1 p.ad p.cap).cells.setIfInBounds 11 (.slice ad p.body.length cap) = (noP p (getN s.2).1 ad cap).cells := by
      unfold noP Pk.cells
      simp only [List.setIfInBounds_toArray, List.set_cons_zero, List.set_cons_succ]
    rw [e] at q1
    have q2 := q1.row (noP p (getN s.2).1 ad cap).cells rfl
    have r1 := rd_other (w' := W.setCell ⟨w.heap.size, 11, none⟩ (.slice ad p.body.length cap)) (noP p (getN s.2).1 p.ad p.cap) hrd hG.box (fun b hb => heap_setCell_other _ _ _ _ hb)
    have r2 := rd_other (w' := (W.setCell ⟨w.heap.size, 11, none⟩ (.slice ad p.body.length cap)).setRow (w.heap.size + 1) (noP p (getN s.2).1 ad cap).cells) zero r1 q1.res (fun b hb => setRow_other _ _ _ _ hb)
    exact ⟨Lib.hid q1.box, Lib.hid q1.res, Lib.hid q2.res, Lib.hid ⟨ad, cap, rfl, Lib.hid r2, Lib.hid q2.rr, Lib.hid q2.step⟩⟩)
  generalize AGot p g s w = Got at *
  clear he hr hn hle hm
  have hx1 : decide ((((getN s.2).1 : Nat) : Int) > 1152921504606846976) = false := decide_eq_false (by omega)
  have hx2 : decide (1152921504606846976 < (((getN s.2).1 : Nat) : Int)) = false := hx1
  clear hx
  unfold noP at HO1 HN HL
  have hv0 : Hid (IntKind.i64.wrap (((getN s.2).1 : Nat) : Int) = sg (getN s.2).1) := Lib.hid rfl
  generalize numS s = sF at *
  generalize sg (getN s.2).1 = v0 at *
  generalize (((getN s.2).1 : Nat) : Int) = x at *
  obtain ⟨kind, ⟨t, f, q⟩, hops, no, to, index, total, stamp, value, ad0, cap0, body⟩ := p
  unfold Pk.cells zero at hW1 CN HN HL
  unfold Pk.cells at HO1
  unfold pval at HL
  unfold pval Pk.cells
  unfold Pk.cells at HL
  simp only [List.length_nil] at hW1 CN CC HN HL HO1 ⊢
  obtain ⟨n, hn⟩ : ∃ n, body.length = n := ⟨_, rfl⟩
  simp only [hn] at hW1 CN CC HN HL HO1 ⊢
  clear hn h H1
  go_enter Try.func19, Try.ntmps19
  go_upto_region 1 with fail
  rw [← hW1.out]
  go_wp2_with fail
  refine (CN.out).mono ?_; rintro e w2 ⟨rfl, H2⟩
  clear CN hW1
  go_wp2_with fail
  refine (CE.out _ _ _ H2.out).mono ?_; rintro e w3 ⟨rfl, rfl⟩
  clear CE
  obtain ⟨c5, f5, H3⟩ := (HN.out _ H2.out).out
  have H3 := Lib.hid H3
  have hw0 := hv0.out
  clear HN H2
  go_upto_region 8 with fail
  clear hw0
  try rw [hv0.out]
  generalize w2.setCell ⟨w.heap.size, 5, none⟩ (.int .i64 v0) = w3 at *
  clear c5 f5 hv0
  have c11 := H3.out.box.cell 11
  simp only [List.getElem?_toArray, List.getElem?_cons_succ, List.getElem?_cons_zero] at c11
  go_wp2_with fail
  refine (CC.out _ _ _ H3.out).mono ?_; rintro e w5 ⟨ad2, cap2, rfl, H5, R5⟩
  obtain ⟨b1, b2, b4, F⟩ := HL.out w5 ad2 cap2 H5.out R5.out
  have o := Lib.hid (HO1.out ad2 cap2)
  have k11 := H5.out.box.cell 11
  have f11 := H5.out.box.free 11
  simp only [List.getElem?_toArray, List.getElem?_cons_succ, List.getElem?_cons_zero] at k11
  clear c11 CC H5 R5 H3 HL HO1
  go_upto_region 9 with fail
  generalize w5.setCell ⟨w.heap.size, 11, none⟩ (.slice ad2 n cap2) = w6 at *
  clear k11 f11
  go_wp2_with (first
    | (refine wpList_load_row rfl 27 _ rfl _ rfl _ #[.int .i64 kind, .int .i64 t, .int .i64 f, .int .u32 q, .int .i64 hops, .int .i64 v0, .int .i64 to, .int .i64 index, .int .i64 total, .int .i64 stamp, .int .i64 value, .slice ad2 n cap2] _ _ b1.out Try.underlying27 rfl infoPk ?_)
    | (refine wpList_store_row rfl 27 _ _ rfl _ #[.int .i64 kind, .int .i64 t, .int .i64 f, .int .u32 q, .int .i64 hops, .int .i64 v0, .int .i64 to, .int .i64 index, .int .i64 total, .int .i64 stamp, .int .i64 value, .slice ad2 n cap2] rfl rfl _ _ b2.out infoPk rfl o.out ?_))
  exact bodyPost_ret (results_pk2 rfl _ _ (w.heap.size + 1) _ (.int .i64 0) rfl rfl b4.out rfl) rfl F.out
end Go.Proofs.Ytepcbklokcfbfaa.Att
