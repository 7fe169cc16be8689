/- Contracts of the document's own answers for layer 16: without the links of some nodes. -/
import Derived.Test.YtlfkeonopdhoeaaGrfT
import Derived.Test.YtlfkeonopdhoeaaNodesD
import Derived.BigRegion
import Derived.Deep.RegionLaw
import Derived.Deep.Cut
namespace Go.Proofs.Ytlfkeonopdhoeaa.Grf
open Go.ChangeShapes Go.WideShapes Go.ChangeAt Go.RowKit
set_option linter.unusedVariables false
set_option linter.unusedSimpArgs false
/-- An append of one link, as a step of a region that draws its order. -/
theorem step_one {wr : World} {ops : Array Oper} {o : Oper} {a : Act} {K : Act → World → Prop} {Q : Exit → Act → World → Prop} {E : Prop} (hgd : o.guard = none) (s x : Operand)
    (ho : o.op = .call { callee := .builtin .append, args := #[s, x], argTypes := #[22, 22] }) (base : Nat) (v : Value) (L : List Pr) (hs : a.eval s = v) (hown : OwnG wr base v L)
    (p q : Int) (hx : a.eval x = .slice (some ⟨wr.heap.size, 0, none⟩) 1 1) (hl : L.length < 1099511627776) (hbase : base ≤ wr.heap.size)
    (h : ∀ v' w', OwnG w' base v' (L ++ [(p, q)]) → Below base wr w' → (∀ k, k < wr.heap.size → some k ≠ v.ownBlock → w'.heap[k]? = wr.heap[k]?) → K (a.put o.dst v') w') :
    if Region.wanted o (yielded ops a.tmps) = true then Oper.wp Try.prog o a (wr.alloc (.cells #[.int .i64 p, .int .i64 q] 35)).drew K Q else E := by
  obtain ⟨i0, hi, hz0, hz1, hz2⟩ := info_parts infoPr
  have hd : World.ownsRow (wr.alloc (.cells #[.int .i64 p, .int .i64 q] 35)).drew base 35 2 v L.length (L.flatMap enc) := World.ownsRow.alloc hown _
  refine Rw.step_append2 _ hgd s x 22 ho base 35 i0 (.agg #[.int .i64 0, .int .i64 0]) 2 16 Try.underlying22 hi hz0 hz1 hz2 rfl (by decide) v L.length (L.flatMap enc) hs hd (some ⟨wr.heap.size, 0, none⟩) 1 1 (enc (p, q)) hx rfl (fun e => by cases e) (fun ad e => by cases e; exact tmp_cells wr p q _) (by simp [enc, Value.oneCell']) (by unfold maxLen; omega) (by omega) (by show base ≤ (wr.alloc _).heap.size; rw [World.size_alloc]; omega) ?_
  intro v' w1 hown' hgrow _
  have hgrow' : (wr.alloc (.cells #[.int .i64 p, .int .i64 q] 35)).grownBy w1 v.ownBlock := ⟨hgrow.os, hgrow.tape, hgrow.output, hgrow.size, hgrow.block⟩
  refine h v' w1 (Rw.OwnS.snoc enc_len hown') (Own.below_append hown hbase hgrow') (fun k hk hne => ?_)
  exact (hgrow'.block k (by rw [World.size_alloc]; omega) hne).trans (Below.heap_alloc wr _ k hk)
def off (zs : List Int) (p : Pr) : Bool := !decide (p.1 ∈ zs) && !decide (p.2 ∈ zs)
theorem offL_eq (zs : List Int) (L : List Pr) : offL zs L = L.filter (off zs) := rfl
theorem off_snoc (zs : List Int) (m : Nat) (hm : m < zs.length) (p : Pr) : off (zs.take (m + 1)) p = (off (zs.take m) p && (!(p.1 == zs.getD m 0) && !(p.2 == zs.getD m 0))) := by
  unfold off
  rw [Nodes.take_succ' hm]
  rw [Bool.eq_iff_iff]
  simp only [List.mem_append, List.mem_singleton, Bool.and_eq_true, Bool.not_eq_true', decide_eq_false_iff_not, not_or, beq_eq_false_iff_ne]
  exact ⟨fun h => ⟨⟨h.1.1, h.2.1⟩, h.1.2, h.2.2⟩, fun h => ⟨⟨h.1.1, h.2.1⟩, h.1.2, h.2.2⟩⟩
/-- The document's graph while links are left out. -/
structure RU (w : World) (xb rb gb base n : Nat) (u v : Value) (L : List Pr) (W : World) : Prop where
  rs : RS w rb gb base n v L W
  src : Rw.Blk W xb 29 #[.int .i64 (n : Int), u]
  ne1 : xb ≠ rb
  ne2 : xb ≠ gb
theorem RU.step {w W V : World} {xb rb gb base n : Nat} {u v : Value} {L : List Pr} (h : RU w xb rb gb base n u v L W) (hB : Below W.heap.size W V) : RU w xb rb gb base n u v L V :=
  ⟨h.rs.step hB, h.src.below hB, h.ne1, h.ne2⟩
def RWPost (n : Nat) (M : List Pr) (w : World) (e : Ending) (w' : World) : Prop :=
  ∃ ad cap, e = .returned (gval (n : Int) (.slice ad M.length cap)) ∧ RdG w' ad M ∧ Below w.heap.size w w'
set_option maxHeartbeats 4000000 in
theorem rwithout_any (n : Nat) (ad : Option Addr) (len cap : Nat) (L : List Pr) (ado : Option Addr) (leno capo : Nat) (zs : List Int) (w : World) (hlen : L.length = len) (hm : len < 1099511627776) (hr : RdG w ad L) (hleno : zs.length = leno) (hmo : leno < 1099511627776) (hro : Nodes.Rd w ado zs) :
    Calls Try.prog 17 #[gval (n : Int) (.slice ad len cap), .slice ado leno capo] w (RWPost n (offL zs L) w) := by
  rw [offL_eq]
  have HL := Lib.hid hlen
  have HR := Lib.hid hr
  have HLO := Lib.hid hleno
  have HRO := Lib.hid hro
  obtain ⟨w0, hw0⟩ : ∃ w0, Hid (w0 = ((w.alloc (.cells #[.int .i64 (n : Int), .slice ad len cap] 29)).alloc (.cells #[.int .i64 0, .slice none 0 0] 29)).alloc (.cells #[.int .i64 (n : Int), .slice none 0 0] 29)) := ⟨_, Lib.hid rfl⟩
  have HS0 : Hid (RU w w.heap.size (w.heap.size + 1) (w.heap.size + 2) w0.heap.size n (.slice ad len cap) (.slice none 0 0) [] w0) := Lib.hid (by
    have hz : w0.heap.size = w.heap.size + 3 := by rw [hw0.out, World.size_alloc, World.size_alloc, World.size_alloc]
    have b1 := ((Rw.Blk.new w 29 #[.int .i64 (n : Int), .slice ad len cap]).alloc (.cells #[.int .i64 0, .slice none 0 0] 29)).alloc (.cells #[.int .i64 (n : Int), .slice none 0 0] 29)
    have b2 := (Rw.Blk.new (w.alloc (.cells #[.int .i64 (n : Int), .slice ad len cap] 29)) 29 #[.int .i64 0, .slice none 0 0]).alloc (.cells #[.int .i64 (n : Int), .slice none 0 0] 29)
    have b3 := Rw.Blk.new ((w.alloc (.cells #[.int .i64 (n : Int), .slice ad len cap] 29)).alloc (.cells #[.int .i64 0, .slice none 0 0] 29)) 29 #[.int .i64 (n : Int), .slice none 0 0]
    rw [World.size_alloc] at b2 b3
    rw [World.size_alloc] at b3
    rw [hw0.out] at hz ⊢
    exact ⟨⟨b2, b3, OwnG.nil _ _, ((((Below.refl _ _).alloc (Nat.le_refl _) _).alloc (by simp) _).alloc (by simp; omega) _), by omega, by omega, by omega, by omega, Nat.le_refl _, by omega⟩, b1, by omega, by omega⟩)
  clear hlen hr hleno hro
  unfold gval
  go_enter Try.func17, Try.ntmps17
  go_upto_region 2 with fail
  rw [← hw0.out]
  obtain ⟨xb, hxb⟩ : ∃ xb, Hid (w.heap.size = xb) := ⟨_, Lib.hid rfl⟩
  obtain ⟨rb, hrb⟩ : ∃ rb, Hid (w.heap.size + 1 = rb) := ⟨_, Lib.hid rfl⟩
  obtain ⟨gb, hgb⟩ : ∃ gb, Hid (w.heap.size + 2 = gb) := ⟨_, Lib.hid rfl⟩
  obtain ⟨base, hbase⟩ : ∃ base, Hid (w0.heap.size = base) := ⟨_, Lib.hid rfl⟩
  rw [hgb.out, hrb.out, hxb.out]
  have HS1 : Hid (RU w xb rb gb base n (.slice ad len cap) (.slice none 0 0) [] w0) := Lib.hid (by
    have := HS0.out
    rw [hgb.out, hrb.out, hbase.out] at this
    rw [← hxb.out]
    exact this)
  clear HS0 hw0 hgb hbase hrb hxb
  go_wp2_with fail
  go_loopw [6] (fun i wr => ∃ k : Nat, k ≤ len ∧ i = .int .i64 k ∧ Hid (∃ v, RU w xb rb gb base n (.slice ad len cap) v ((L.take k).filter (off zs)) wr)) (fun i _ => len - (intOf i).toNat)
  case atStart => exact ⟨0, Nat.zero_le _, rfl, Lib.hid ⟨_, by rw [List.take_zero]; exact HS1.out⟩⟩
  case round =>
    generalize wr = w1 at *
    obtain ⟨k, hk, rfl, HSx⟩ := hrel
    obtain ⟨v, hSv⟩ := HSx.out
    obtain ⟨adv, capv, rfl⟩ := hSv.rs.own.shape
    have HSv := Lib.hid hSv
    clear HSx hSv
    have hfl := filt_len (zs := L) (f := off zs) k
    have cx : w1.cell? ⟨xb, 1, none⟩ = some (.slice ad len cap) := HSv.out.src.cell 1
    by_cases hlt : k < len
    · have hk' : k < L.length := by rw [HL.out]; exact hlt
      have HTS := Lib.hid (filt_hit (zs := L) (f := off zs) (k := k) hk')
      have HTM := Lib.hid (filt_miss (zs := L) (f := off zs) (k := k) hk')
      have HXY := Lib.hid (fun W (h : Below w.heap.size w W) => rd_at (HR.out.below h) (i := k) hk')
      generalize L.getD k (0, 0) = p at *
      obtain ⟨x, y⟩ := p
      simp only at HTS HTM HXY
      have HO := Lib.hid (fun m (h : m < leno) => off_snoc zs m (by rw [HLO.out]; exact h) (x, y))
      have HCX := Lib.hid (fun W (h : Below w1.heap.size w1 W) => show W.cell? ⟨xb, 1, none⟩ = some (.slice ad len cap) from (HSv.out.src.below h).cell 1)
      have HBw := Lib.hid (fun W (h : Below w1.heap.size w1 W) => HSv.out.rs.below.trans (h.mono HSv.out.rs.below.size))
      go_wp2_with fail
      go_loopw [7, 8] (fun kv jv W => ∃ (m : Nat) (b : Bool), m ≤ leno ∧ jv = .int .i64 m ∧ kv = .bool b ∧ Hid (b = off (zs.take m) (x, y)) ∧ Hid (Below w1.heap.size w1 W)) (fun _ jv _ => leno - (intOf jv).toNat)
      case atStart => exact ⟨0, true, Nat.zero_le _, rfl, rfl, Lib.hid (by rw [List.take_zero]; rfl), Lib.hid (Below.refl _ _)⟩
      case round =>
        obtain ⟨m, b, hm2, rfl, rfl, hb, hB⟩ := hrel
        by_cases hml : m < leno
        · have HS := Lib.hid (HO.out m hml)
          rw [← hb.out] at HS
          have c1 := HCX.out _ hB.out
          obtain ⟨bz, o1, had, hbz, d0, d1⟩ := HXY.out _ (HBw.out _ hB.out)
          obtain ⟨bo, o2, hado, d2⟩ := (HRO.out.below (HBw.out _ hB.out)).at (k := m) (by rw [HLO.out]; exact hml)
          subst had hado
          generalize zs.getD m 0 = z at *
          clear hbz cx hb hk'
          cases b with
          | false =>
            have HSf := Lib.hid (show off (zs.take (m + 1)) (x, y) = false by rw [HS.out]; rfl)
            go_wp2_with fail
            go_region
            go_wp2_with fail
            go_roundw
            case rel => exact ⟨m + 1, false, by omega, by go_num, rfl, Lib.hid HSf.out.symm, Lib.hid (hB.out.trans (Below.refl _ _).drew)⟩
            case measure => simp [intOf]; omega
          | true =>
            by_cases hxz : x = z
            · have HSf := Lib.hid (show off (zs.take (m + 1)) (x, y) = false by rw [HS.out, beq_iff_eq.2 hxz]; rfl)
              subst hxz
              go_wp2_with fail
              go_region
              go_wp2_with fail
              go_roundw
              case rel => exact ⟨m + 1, false, by omega, by go_num, rfl, Lib.hid HSf.out.symm, Lib.hid (hB.out.trans (Below.refl _ _).drew)⟩
              case measure => simp [intOf]; omega
            · have e1 : (x == z) = false := beq_eq_false_iff_ne.2 hxz
              have e2 : (x != z) = true := by simpa using hxz
              by_cases hyz : y = z
              · have HSf := Lib.hid (show off (zs.take (m + 1)) (x, y) = false by rw [HS.out, e1, beq_iff_eq.2 hyz]; rfl)
                subst hyz
                clear hxz
                go_wp2_with fail
                go_region
                go_wp2_with fail
                go_roundw
                case rel => exact ⟨m + 1, false, by omega, by go_num, rfl, Lib.hid HSf.out.symm, Lib.hid (hB.out.trans (Below.refl _ _).drew)⟩
                case measure => simp [intOf]; omega
              · have e3 : (y == z) = false := beq_eq_false_iff_ne.2 hyz
                have e4 : (y != z) = true := by simpa using hyz
                have HSf := Lib.hid (show off (zs.take (m + 1)) (x, y) = true by rw [HS.out, e1, e3]; rfl)
                clear hxz hyz
                go_wp2_with fail
                go_region
                go_wp2_with fail
                go_roundw
                case rel => exact ⟨m + 1, true, by omega, by go_num, rfl, Lib.hid HSf.out.symm, Lib.hid (hB.out.trans (Below.refl _ _).drew)⟩
                case measure => simp [intOf]; omega
        · obtain rfl : m = leno := by omega
          have hT : zs.take m = zs := List.take_of_length_le (by rw [HLO.out]; exact Nat.le_refl _)
          rw [hT] at hb
          cases b with
          | false =>
            have HX := Lib.hid (HTM.out hb.out.symm)
            have HSW := Lib.hid (HSv.out.step hB.out)
            go_wp2_with fail
            go_roundw
            case rel => exact ⟨k + 1, by omega, by go_num, Lib.hid ⟨_, by rw [HX.out]; exact HSW.out⟩⟩
            case measure => simp [intOf]; omega
          | true =>
            have HX := Lib.hid (HTS.out hb.out.symm)
            have HSW := Lib.hid (HSv.out.step hB.out)
            obtain ⟨⟨c0, c1, f1⟩, c2, c3, f2, f3⟩ := HSW.out.rs.cells
            have cz : wr.cell? ⟨xb, 1, none⟩ = some (.slice ad len cap) := HSW.out.src.cell 1
            obtain ⟨bz, o1, had, hbz, d0, d1⟩ := HXY.out _ HSW.out.rs.below
            subst had
            have hown := HSW.out.rs.own
            have hsz := HSW.out.rs.lt5
            have hlen : ((L.take k).filter (off zs)).length < 1099511627776 := by omega
            obtain ⟨n2, hn2⟩ : ∃ n2, Hid (((L.take k).filter (off zs)).length = n2) := ⟨_, Lib.hid rfl⟩
            have HBB : Hid (∀ w6, (∀ j, j < wr.heap.size → some j ≠ (Value.slice adv n2 capv).ownBlock → w6.heap[j]? = wr.heap[j]?) → Rw.Blk w6 gb 29 #[.int .i64 (n : Int), .slice adv n2 capv] ∧ Rw.Blk w6 rb 29 #[.int .i64 0, .slice none 0 0] ∧ Rw.Blk w6 xb 29 #[.int .i64 (n : Int), .slice (some ⟨bz, o1, none⟩) len cap]) := Lib.hid (fun w6 h => by
              have hS := HSW.out
              rw [hn2.out] at hS hown
              exact ⟨(h gb hS.rs.box.lt (fun e => Rw.own_ne hown hS.rs.box (by decide) e.symm)).trans hS.rs.box, (h rb hS.rs.res.lt (fun e => Rw.own_ne hown hS.rs.res (by decide) e.symm)).trans hS.rs.res, (h xb hS.src.lt (fun e => Rw.own_ne hown hS.src (by decide) e.symm)).trans hS.src⟩)
            have HRL : Hid (∀ v' w6, OwnG w6 base v' ((L.take k).filter (off zs) ++ [(x, y)]) → Below base wr w6 → Rw.Blk w6 gb 29 #[.int .i64 (n : Int), .slice adv n2 capv] ∧ Rw.Blk w6 rb 29 #[.int .i64 0, .slice none 0 0] ∧ Rw.Blk w6 xb 29 #[.int .i64 (n : Int), .slice (some ⟨bz, o1, none⟩) len cap] → RU w xb rb gb base n (.slice (some ⟨bz, o1, none⟩) len cap) v' ((L.take (k + 1)).filter (off zs)) (w6.setCell ⟨gb, 1, none⟩ v')) := Lib.hid (fun v' w6 ho hb hbb => by
              have hS := HSW.out.rs
              have hst : Rw.Stay (fun j => j = gb) w6 (w6.setCell ⟨gb, 1, none⟩ v') := Rw.Stay.of_grown (F := fun j => j = gb) (Rw.setCell_grown w6 gb 1 v') (by intro j e; simpa using e.symm)
              have hwb : w.heap.size ≤ base := by have := hS.lt1; have := hS.lt3; omega
              refine ⟨⟨hbb.2.1.far (p := ⟨gb, 1, none⟩) hS.ne v', ?_, by rw [HX.out]; exact ho.stay hst (fun j e => by rw [e]; exact hS.lt4), (hS.below.trans (hb.mono hwb)).setCell (p := ⟨gb, 1, none⟩) hS.lt2 v', hS.lt1, hS.lt2, hS.lt3, hS.lt4, Nat.le_trans hS.lt5 (Nat.le_trans hb.size hst.size), hS.ne⟩, hbb.2.2.far (p := ⟨gb, 1, none⟩) HSW.out.ne2 v', HSW.out.ne1, HSW.out.ne2⟩
              have := hbb.1.put 1 v'
              simpa using this)
            have HLN : Hid (((L.take k).filter (off zs) ++ [(x, y)]).length = n2 + 1) := Lib.hid (by rw [List.length_append, hn2.out]; rfl)
            rw [hn2.out] at c1 hown
            have hgw : gb ≠ wr.heap.size := by have := HSW.out.rs.box.lt; omega
            have g0 : (wr.alloc (.cells #[.int .i64 x, .int .i64 y] 35)).cell? ⟨gb, 1, none⟩ = some (.slice adv n2 capv) := (((Below.refl wr.heap.size wr).alloc (Nat.le_refl _) _).cell (p := ⟨gb, 1, none⟩) HSW.out.rs.box.lt).trans c1
            clear HSW HSv HCX HBw HTS HTM HXY HO hb cx hbz
            go_upto_region 11 with fail
            go_region_law (refine step_one rfl _ _ rfl base _ _ ?_ hown x y ?_ hlen hsz ?_; (focus (simp [Act.eval, Act.put])); (focus (simp [Act.eval, Act.put])); intro v' w6 hown' hB6 hblk; obtain ⟨ad', cap', rfl⟩ := hown'.shape; have hbb := HBB.out w6 hblk; have g1 : w6.cell? ⟨gb, 1, none⟩ = some (.slice adv n2 capv) := hbb.1.cell 1; have g1f : w6.frozen? ⟨gb, 1, none⟩ = false := hbb.1.free 1)
            all_goals (
              have ho : OwnG w6 base (.slice ad' (((L.take k).filter (off zs)).length + 1) cap') ((L.take k).filter (off zs) ++ [(x, y)]) := by rw [List.length_append] at hown'; exact hown'
              have HF := Lib.hid (HRL.out _ w6 ho hB6 hbb)
              clear hown' ho g1 g1f hbb HBB HRL hblk c0 c1 f1 c2 c3 f2 f3 d0 d1 g0 hgw hown
              go_wp2_with fail
              go_roundw
              case rel => exact ⟨k + 1, by omega, by go_num, Lib.hid ⟨_, HF.out⟩⟩
              case measure => simp [intOf]; omega)
    · obtain rfl : k = len := by omega
      have HP : Hid (∀ W, RS w rb gb base n (.slice adv ((L.take k).filter (off zs)).length capv) ((L.take k).filter (off zs)) W → RWPost n (L.filter (off zs)) w (.returned (gval (n : Int) (.slice adv ((L.take k).filter (off zs)).length capv))) ((W.setCell ⟨rb, 0, none⟩ (.int .i64 (n : Int))).setCell ⟨rb, 1, none⟩ (.slice adv ((L.take k).filter (off zs)).length capv))) := Lib.hid (fun W hS => by
        have hT : L.take k = L := List.take_of_length_le (by rw [HL.out]; exact Nat.le_refl _)
        rw [hT] at hS ⊢
        refine ⟨adv, capv, rfl, ?_, (set2 rfl hS.res hS.lt1 hS.below _ _).2.2⟩
        have hk := hS.own.stay (F := fun j => j = rb) (w' := (W.setCell ⟨rb, 0, none⟩ (.int .i64 (n : Int))).setCell ⟨rb, 1, none⟩ (.slice adv (L.filter (off zs)).length capv))
          ((Rw.Stay.of_grown (F := fun j => j = rb) (Rw.setCell_grown W rb 0 _) (by intro j e; simpa using e.symm)).snoc (Rw.Stay.of_grown (F := fun j => j = rb) (Rw.setCell_grown _ rb 1 _) (by intro j e; simpa using e.symm)) (fun _ _ e => e)) (fun j e => by rw [e]; exact hS.lt3)
        exact hk.rd.1)
      obtain ⟨n2, hn2⟩ : ∃ n2, Hid (((L.take k).filter (off zs)).length = n2) := ⟨_, Lib.hid rfl⟩
      have HPP := Lib.hid (HP.out _ HSv.out.rs)
      obtain ⟨⟨c0, c1, f1⟩, c2, c3, f2, f3⟩ := HSv.out.rs.cells
      obtain ⟨r0, r1, -⟩ := set2 rfl HSv.out.rs.res HSv.out.rs.lt1 HSv.out.rs.below (.int .i64 (n : Int)) (.slice adv ((L.take k).filter (off zs)).length capv)
      rw [hn2.out] at HPP c1 r0 r1
      clear HP HSv hfl
      go_wp2_with fail
      refine bodyPost_ret (v := gval (n : Int) (.slice adv n2 capv)) (by simp [gval, results, Try.results17, go_sem, r0, r1]) rfl ?_
      exact HPP.out
end Go.Proofs.Ytlfkeonopdhoeaa.Grf
