/- Contracts of the document's own answers for layer 16: a graph is made. -/
import Derived.Test.YtlfkeonopdhoeaaGrfR
namespace Go.Proofs.Ytlfkeonopdhoeaa.Grf
open Go.ChangeShapes Go.WideShapes Go.ChangeAt Go.RowKit
set_option linter.unusedVariables false
theorem rnew_out (z : Int) (h : z < 1 ∨ 64 < z) (ad : Option Addr) (len cap : Nat) (w : World) :
    Calls Try.prog 11 #[.int .i64 z, .slice ad len cap] w fun e w' => e = .returned (.tuple #[gval 0 (.slice none 0 0), .int .i64 1]) ∧ Below w.heap.size w w' := by
  unfold gval
  by_cases h1 : z < 1
  · clear h
    go_enter Try.func11, Try.ntmps11
    go_wp2_with fail
    go_returns
    refine ⟨rfl, ?_⟩
    go_grown
  · have h2 : 64 < z := by omega
    have h3 : decide (z < 1) = false := decide_eq_false h1
    clear h h1
    go_enter Try.func11, Try.ntmps11
    go_wp2_with fail
    go_returns
    refine ⟨rfl, ?_⟩
    go_grown
/-- What the document's making of a graph leaves. -/
def RNPost (n : Nat) (zs : List Pr) (w : World) (e : Ending) (w' : World) : Prop :=
  (erF n [] zs = 0 → ∃ ad cap, e = .returned (.tuple #[gval (n : Int) (.slice ad zs.length cap), .int .i64 0]) ∧ RdG w' ad zs) ∧
  (erF n [] zs ≠ 0 → e = .returned (.tuple #[gval 0 (.slice none 0 0), .int .i64 (erF n [] zs)])) ∧ Below w.heap.size w w'
/-- The document's graph while it is made. -/
structure RS (w : World) (rb gb base n : Nat) (v : Value) (L : List Pr) (W : World) : Prop where
  res : Rw.Blk W rb 29 #[.int .i64 0, .slice none 0 0]
  box : Rw.Blk W gb 29 #[.int .i64 (n : Int), v]
  own : OwnG W base v L
  below : Below w.heap.size w W
  lt1 : w.heap.size ≤ rb
  lt2 : w.heap.size ≤ gb
  lt3 : rb < base
  lt4 : gb < base
  lt5 : base ≤ W.heap.size
  ne : rb ≠ gb
theorem RS.step {w W V : World} {rb gb base n : Nat} {v : Value} {L : List Pr} (h : RS w rb gb base n v L W) (hB : Below W.heap.size W V) : RS w rb gb base n v L V :=
  ⟨h.res.below hB, h.box.below hB, h.own.below hB, h.below.trans (hB.mono h.below.size), h.lt1, h.lt2, h.lt3, h.lt4, Nat.le_trans h.lt5 hB.size, h.ne⟩
theorem RS.cells {w W : World} {rb gb base n : Nat} {v : Value} {L : List Pr} (h : RS w rb gb base n v L W) :
    (W.cell? ⟨gb, 0, none⟩ = some (.int .i64 (n : Int)) ∧ W.cell? ⟨gb, 1, none⟩ = some v ∧ W.frozen? ⟨gb, 1, none⟩ = false) ∧
    (W.cell? ⟨rb, 0, none⟩ = some (.int .i64 0) ∧ W.cell? ⟨rb, 1, none⟩ = some (.slice none 0 0) ∧ W.frozen? ⟨rb, 0, none⟩ = false ∧ W.frozen? ⟨rb, 1, none⟩ = false) :=
  ⟨⟨h.box.cell 0, h.box.cell 1, h.box.free 1⟩, h.res.cell 0, h.res.cell 1, h.res.free 0, h.res.free 1⟩
theorem set2 {w W : World} {rb : Nat} {cs : Array Value} (hc : cs.size = 2) (h : Rw.Blk W rb 29 cs) (hb : w.heap.size ≤ rb) (hB : Below w.heap.size w W) (x y : Value) :
    ((W.setCell ⟨rb, 0, none⟩ x).setCell ⟨rb, 1, none⟩ y).cell? ⟨rb, 0, none⟩ = some x ∧ ((W.setCell ⟨rb, 0, none⟩ x).setCell ⟨rb, 1, none⟩ y).cell? ⟨rb, 1, none⟩ = some y ∧ Below w.heap.size w ((W.setCell ⟨rb, 0, none⟩ x).setCell ⟨rb, 1, none⟩ y) := by
  have h2 := (h.put 0 x).put 1 y
  refine ⟨?_, ?_, (hB.setCell (p := ⟨rb, 0, none⟩) hb x).setCell (p := ⟨rb, 1, none⟩) hb y⟩
  · rw [h2.cell 0]; simp [hc]
  · rw [h2.cell 1]; simp [hc]
set_option maxHeartbeats 4000000 in
theorem rnew_in (n : Nat) (h1 : 1 ≤ n) (h64 : n ≤ 64) (ad : Option Addr) (len cap : Nat) (zs : List Pr) (hlen : zs.length = len) (hm : len < 1099511627776) (w : World) (hr : RdG w ad zs) :
    Calls Try.prog 11 #[.int .i64 (n : Int), .slice ad len cap] w (RNPost n zs w) := by
  have HL := Lib.hid hlen
  have HR := Lib.hid hr
  have hd1 : decide ((n : Int) < 1) = false := decide_eq_false (by omega)
  have hd2 : decide (64 < (n : Int)) = false := decide_eq_false (by omega)
  clear hlen hr
  go_enter Try.func11, Try.ntmps11
  obtain ⟨w0, hw0⟩ : ∃ w0, Hid (w0 = (w.alloc (.cells #[.int .i64 0, .slice none 0 0] 29)).alloc (.cells #[.int .i64 (n : Int), .slice none 0 0] 29)) := ⟨_, Lib.hid rfl⟩
  have HS0 : Hid (RS w w.heap.size (w.heap.size + 1) w0.heap.size n (.slice none 0 0) [] w0) := Lib.hid (by
    have hz : w0.heap.size = w.heap.size + 2 := by rw [hw0.out, World.size_alloc, World.size_alloc]
    have b2 := Rw.Blk.new (w.alloc (.cells #[.int .i64 0, .slice none 0 0] 29)) 29 #[.int .i64 (n : Int), .slice none 0 0]
    rw [World.size_alloc] at b2
    refine ⟨?_, ?_, OwnG.nil _ _, ?_, Nat.le_refl _, by omega, by omega, by omega, Nat.le_refl _, by omega⟩
    · rw [hw0.out]; exact (Rw.Blk.new w _ _).alloc _
    · rw [hw0.out]; exact b2
    · rw [hw0.out]; exact ((Below.refl _ _).alloc (Nat.le_refl _) _).alloc (by simp) _)
  go_upto_region 4 with fail
  rw [← hw0.out]
  obtain ⟨rb, hrb⟩ : ∃ rb, Hid (w.heap.size = rb) := ⟨_, Lib.hid rfl⟩
  obtain ⟨gb, hgb⟩ : ∃ gb, Hid (w.heap.size + 1 = gb) := ⟨_, Lib.hid rfl⟩
  obtain ⟨base, hbase⟩ : ∃ base, Hid (w0.heap.size = base) := ⟨_, Lib.hid rfl⟩
  rw [hgb.out, hrb.out]
  have HS1 : Hid (RS w rb gb base n (.slice none 0 0) [] w0) := Lib.hid (by
    have := HS0.out
    rw [hgb.out, hbase.out] at this
    rw [← hrb.out]
    exact this)
  clear HS0 hw0 hgb hbase
  go_wp2_with fail
  go_loopw [7] (fun i wr => ∃ k : Nat, k ≤ len ∧ i = .int .i64 k ∧ Hid (∃ v, RS w rb gb base n v (zs.take k) wr) ∧ Hid (erF n [] zs = erF n (zs.take k) (zs.drop k))) (fun i _ => len - (intOf i).toNat)
  case atStart => exact ⟨0, Nat.zero_le _, rfl, Lib.hid ⟨_, by rw [List.take_zero]; exact HS1.out⟩, Lib.hid (by rw [List.take_zero, List.drop_zero])⟩
  case round =>
    obtain ⟨k, hk, rfl, HSx, HE⟩ := hrel
    obtain ⟨v, hSv⟩ := HSx.out
    obtain ⟨adv, capv, rfl⟩ := hSv.own.shape
    have HSv := Lib.hid hSv
    clear HSx hSv
    have hlk : (zs.take k).length = k := by rw [List.length_take, HL.out]; omega
    rw [hlk] at HSv
    by_cases hlt : k < len
    · have hk' : k < zs.length := by rw [HL.out]; exact hlt
      obtain ⟨bz, off, rfl, hbz, e0, e1⟩ := rd_at (HR.out.below HSv.out.below) (i := k) hk'
      have HTS := Lib.hid (take_snoc (zs := zs) (k := k) hk')
      have HES := Lib.hid (erF_step (n := n) (zs := zs) (k := k) hk')
      have HEX := Lib.hid (erF_stop (n := n) (zs := zs) (k := k) hk')
      generalize zs.getD k (0, 0) = p at *
      obtain ⟨x, y⟩ := p
      simp only at e0 e1 HTS HES HEX
      have CN := Lib.hid (fun z W => node_any (n : Int) (.slice adv k capv) z W)
      have CK := Lib.hid (fun W (hS : RS w rb gb base n (.slice adv k capv) (zs.take k) W) => rlinked_any (n : Int) adv k capv (zs.take k) x y W hlk (by omega) hS.own.rd.1)
      have HX : Hid (∀ c : Int, Grf.wr n (zs.take k) x y = c → c ≠ 0 → ∀ W, RS w rb gb base n (.slice adv k capv) (zs.take k) W → RNPost n zs w (.returned (.tuple #[gval 0 (.slice none 0 0), .int .i64 c])) ((W.setCell ⟨rb, 0, none⟩ (.int .i64 0)).setCell ⟨rb, 1, none⟩ (.slice none 0 0))) := Lib.hid (fun c hc hc0 W hS => by
        have h0 : erF n [] zs = c := by rw [HE.out, HEX.out (by rw [hc]; exact hc0), hc]
        exact ⟨fun h => absurd (h0.symm.trans h) hc0, fun _ => by rw [h0], (set2 rfl hS.res hS.lt1 hS.below _ _).2.2⟩)
      have H8 := Lib.hid (wr_node (n := n) (L := zs.take k) (x := x) (y := y))
      have H5 := Lib.hid (wr_same (n := n) (L := zs.take k) (x := x) (y := y))
      have HD := Lib.hid (wr_dup (n := n) (L := zs.take k) (x := x) (y := y))
      have HSd := Lib.hid (HSv.out.step (Below.refl _ _).drew)
      unfold gval at CN CK
      clear hk' hbz HEX
      go_upto_region 7 with fail
      go_region
      obtain ⟨w2, hw2⟩ : ∃ w2, w2 = World.drew wr := ⟨_, rfl⟩
      rw [← hw2]
      rw [← hw2] at HSd
      clear hw2 HSv e0 e1
      obtain ⟨⟨c0, c1, f1⟩, c2, c3, f2, f3⟩ := HSd.out.cells
      have CX := Lib.hid (CN.out x w2)
      generalize hp : (decide (0 ≤ x) && decide (x < (n : Int))) = p at *
      generalize hq : (decide (0 ≤ y) && decide (y < (n : Int))) = q at *
      have CY := Lib.hid (fun W => hq ▸ CN.out y W)
      clear CN hp hq
      cases p with
      | false =>
        have HW := Lib.hid (H8.out rfl)
        go_wp2_with fail
        refine (CX.out).mono ?_; rintro e WW ⟨rfl, hBW⟩
        have HSW := Lib.hid (HSd.out.step hBW)
        clear hBW c0 c1 f1 c2 c3 f2 f3 CX CY H8 H5 HD HES CK HTS
        have HPP := Lib.hid (HX.out 8 (by rw [HW.out]) (by decide) WW HSW.out)
        obtain ⟨⟨c0, c1, f1⟩, c2, c3, f2, f3⟩ := HSW.out.cells
        obtain ⟨r0, r1, -⟩ := set2 rfl HSW.out.res HSW.out.lt1 HSW.out.below (.int .i64 0) (.slice none 0 0)
        go_wp2_with fail
        refine bodyPost_ret (v := .tuple #[gval 0 (.slice none 0 0), .int .i64 8]) (by simp [gval, results, Try.results11, go_sem, r0, r1]) rfl ?_
        exact HPP.out
      | true =>
        go_wp2_with fail
        refine (CX.out).mono ?_; rintro e w3 ⟨rfl, hB3⟩
        have HS3 := Lib.hid (HSd.out.step hB3)
        clear hB3 c0 c1 f1 c2 c3 f2 f3 CX HSd
        obtain ⟨⟨c0, c1, f1⟩, c2, c3, f2, f3⟩ := HS3.out.cells
        cases q with
        | false =>
          have HW := Lib.hid (H8.out rfl)
          go_wp2_with fail
          refine (CY.out _).mono ?_; rintro e WW ⟨rfl, hBW⟩
          have HSW := Lib.hid (HS3.out.step hBW)
          clear hBW c0 c1 f1 c2 c3 f2 f3 CY H8 H5 HD HES CK HTS
          have HPP := Lib.hid (HX.out 8 (by rw [HW.out]) (by decide) WW HSW.out)
          obtain ⟨⟨c0, c1, f1⟩, c2, c3, f2, f3⟩ := HSW.out.cells
          obtain ⟨r0, r1, -⟩ := set2 rfl HSW.out.res HSW.out.lt1 HSW.out.below (.int .i64 0) (.slice none 0 0)
          go_wp2_with fail
          refine bodyPost_ret (v := .tuple #[gval 0 (.slice none 0 0), .int .i64 8]) (by simp [gval, results, Try.results11, go_sem, r0, r1]) rfl ?_
          exact HPP.out
        | true =>
          go_wp2_with fail
          refine (CY.out _).mono ?_; rintro e w4 ⟨rfl, hB4⟩
          have HS4 := Lib.hid (HS3.out.step hB4)
          clear hB4 c0 c1 f1 c2 c3 f2 f3 CY HS3
          by_cases hxy : x = y
          · have HW := Lib.hid (H5.out rfl hxy)
            subst hxy
            have hb : (x == x) = true := beq_iff_eq.2 rfl
            clear H8 H5 HD HES CK HTS
            have HSW := HS4
            obtain ⟨WW, hWW⟩ : ∃ WW, WW = w4 := ⟨_, rfl⟩
            subst hWW
            have HPP := Lib.hid (HX.out 5 (by rw [HW.out]) (by decide) WW HSW.out)
            obtain ⟨⟨c0, c1, f1⟩, c2, c3, f2, f3⟩ := HSW.out.cells
            obtain ⟨r0, r1, -⟩ := set2 rfl HSW.out.res HSW.out.lt1 HSW.out.below (.int .i64 0) (.slice none 0 0)
            go_wp2_with fail
            refine bodyPost_ret (v := .tuple #[gval 0 (.slice none 0 0), .int .i64 5]) (by simp [gval, results, Try.results11, go_sem, r0, r1]) rfl ?_
            exact HPP.out
          · have hb : (x == y) = false := beq_eq_false_iff_ne.2 hxy
            have HDD := Lib.hid (HD.out rfl hxy)
            obtain ⟨⟨c0, c1, f1⟩, c2, c3, f2, f3⟩ := HS4.out.cells
            have CKK := Lib.hid (CK.out _ HS4.out)
            clear CK H8 H5 HD hxy
            cases hr : lk (zs.take k) x y with
            | true =>
              rw [hr] at CKK HDD
              rw [if_pos rfl] at HDD
              have HW := HDD
              clear hr HDD HES HTS
              go_wp2_with fail
              refine (CKK.out).mono ?_; rintro e WW ⟨rfl, hBW⟩
              have HSW := Lib.hid (HS4.out.step hBW)
              clear hBW c0 c1 f1 c2 c3 f2 f3 CKK
              have HPP := Lib.hid (HX.out 12 (by rw [HW.out]) (by decide) WW HSW.out)
              obtain ⟨⟨c0, c1, f1⟩, c2, c3, f2, f3⟩ := HSW.out.cells
              obtain ⟨r0, r1, -⟩ := set2 rfl HSW.out.res HSW.out.lt1 HSW.out.below (.int .i64 0) (.slice none 0 0)
              go_wp2_with fail
              refine bodyPost_ret (v := .tuple #[gval 0 (.slice none 0 0), .int .i64 12]) (by simp [gval, results, Try.results11, go_sem, r0, r1]) rfl ?_
              exact HPP.out
            | false =>
              rw [hr] at CKK HDD
              rw [if_neg (by simp)] at HDD
              have HE2 := Lib.hid (HE.out.trans (HES.out HDD.out))
              clear hr HX HES HE
              go_wp2_with fail
              refine (CKK.out).mono ?_; rintro e w5 ⟨rfl, hB5⟩
              have HS5 := Lib.hid (HS4.out.step hB5)
              clear hB5 c0 c1 f1 c2 c3 f2 f3 CKK HS4
              obtain ⟨⟨c0, c1, f1⟩, c2, c3, f2, f3⟩ := HS5.out.cells
              have hown := HS5.out.own
              have hsz := HS5.out.lt5
              have hlen : (zs.take k).length < 1099511627776 := by rw [hlk]; omega
              have HBB : Hid (∀ w6, (∀ j, j < w5.heap.size → some j ≠ (Value.slice adv k capv).ownBlock → w6.heap[j]? = w5.heap[j]?) → Rw.Blk w6 gb 29 #[.int .i64 (n : Int), .slice adv k capv] ∧ Rw.Blk w6 rb 29 #[.int .i64 0, .slice none 0 0]) := Lib.hid (fun w6 h =>
                ⟨(h gb HS5.out.box.lt (fun e => Rw.own_ne hown HS5.out.box (by decide) e.symm)).trans HS5.out.box, (h rb HS5.out.res.lt (fun e => Rw.own_ne hown HS5.out.res (by decide) e.symm)).trans HS5.out.res⟩)
              have HRL : Hid (∀ v' w6, OwnG w6 base v' (zs.take k ++ [(x, y)]) → Below base w5 w6 → Rw.Blk w6 gb 29 #[.int .i64 (n : Int), .slice adv k capv] ∧ Rw.Blk w6 rb 29 #[.int .i64 0, .slice none 0 0] → RS w rb gb base n v' (zs.take (k + 1)) (w6.setCell ⟨gb, 1, none⟩ v')) := Lib.hid (fun v' w6 ho hb hbb => by
                have hS := HS5.out
                have hst : Rw.Stay (fun j => j = gb) w6 (w6.setCell ⟨gb, 1, none⟩ v') := Rw.Stay.of_grown (F := fun j => j = gb) (Rw.setCell_grown w6 gb 1 v') (by intro j e; simpa using e.symm)
                have hwb : w.heap.size ≤ base := by have := hS.lt1; have := hS.lt3; omega
                refine ⟨hbb.2.far (p := ⟨gb, 1, none⟩) hS.ne v', ?_, by rw [HTS.out]; exact ho.stay hst (fun j e => by rw [e]; exact hS.lt4), (hS.below.trans (hb.mono hwb)).setCell (p := ⟨gb, 1, none⟩) hS.lt2 v', hS.lt1, hS.lt2, hS.lt3, hS.lt4, Nat.le_trans hS.lt5 (Nat.le_trans hb.size hst.size), hS.ne⟩
                have := hbb.1.put 1 v'
                simpa using this)
              have HLN : Hid ((zs.take k ++ [(x, y)]).length = k + 1) := Lib.hid (by rw [List.length_append, hlk]; rfl)
              clear HS5
              go_wp2_with (at_builtin; refine app_one rfl _ _ rfl base _ _ rfl hown x y rfl hlen hsz ?_; intro v' w6 hown' hB6 hblk; obtain ⟨ad', cap', rfl⟩ := hown'.shape; have hbb := HBB.out w6 hblk; have g1 : w6.cell? ⟨gb, 1, none⟩ = some (.slice adv k capv) := hbb.1.cell 1; have g1f : w6.frozen? ⟨gb, 1, none⟩ = false := hbb.1.free 1)
              go_roundw
              case rel => exact ⟨k + 1, by omega, by go_num, Lib.hid ⟨_, HRL.out _ w6 (by rw [HLN.out] at hown'; exact hown') hB6 hbb⟩, HE2⟩
              case measure => simp [intOf]; omega
    · obtain rfl : k = len := by omega
      have HP : Hid (∀ W, RS w rb gb base n (.slice adv k capv) zs W → RNPost n zs w (.returned (.tuple #[gval (n : Int) (.slice adv k capv), .int .i64 0])) ((W.setCell ⟨rb, 0, none⟩ (.int .i64 (n : Int))).setCell ⟨rb, 1, none⟩ (.slice adv k capv))) := Lib.hid (fun W hS => by
        have h0 : erF n [] zs = 0 := by rw [HE.out, List.drop_of_length_le (by rw [HL.out]; exact Nat.le_refl _)]; rfl
        refine ⟨fun _ => ⟨adv, capv, by rw [HL.out], ?_⟩, fun h => absurd h0 h, (set2 rfl hS.res hS.lt1 hS.below _ _).2.2⟩
        have hk := hS.own.stay (F := fun j => j = rb) (w' := (W.setCell ⟨rb, 0, none⟩ (.int .i64 (n : Int))).setCell ⟨rb, 1, none⟩ (.slice adv k capv))
          ((Rw.Stay.of_grown (F := fun j => j = rb) (Rw.setCell_grown W rb 0 _) (by intro j e; simpa using e.symm)).snoc (Rw.Stay.of_grown (F := fun j => j = rb) (Rw.setCell_grown _ rb 1 _) (by intro j e; simpa using e.symm)) (fun _ _ e => e)) (fun j e => by rw [e]; exact hS.lt3)
        exact hk.rd.1)
      have hT : zs.take k = zs := List.take_of_length_le (by rw [HL.out]; exact Nat.le_refl _)
      rw [hT] at HSv
      have HPP := Lib.hid (HP.out _ HSv.out)
      obtain ⟨⟨c0, c1, f1⟩, c2, c3, f2, f3⟩ := HSv.out.cells
      obtain ⟨r0, r1, -⟩ := set2 rfl HSv.out.res HSv.out.lt1 HSv.out.below (.int .i64 (n : Int)) (.slice adv k capv)
      clear HP hT HSv
      go_wp2_with fail
      refine bodyPost_ret (v := .tuple #[gval (n : Int) (.slice adv k capv), .int .i64 0]) (by simp [gval, results, Try.results11, go_sem, r0, r1]) rfl ?_
      exact HPP.out
end Go.Proofs.Ytlfkeonopdhoeaa.Grf
