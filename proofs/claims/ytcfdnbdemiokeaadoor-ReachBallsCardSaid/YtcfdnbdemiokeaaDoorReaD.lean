/- Contracts of package reach (layer 17): how far all nodes are. -/
import Derived.Test.YtcfdnbdemiokeaaDoorReaC
import Derived.Test.YtcfdnbdemiokeaaDoorMarkA
namespace Go.Proofs.YtcfdnbdemiokeaaDoor.Rea
open Go.RowKit Go.Shelf Go.ChangeShapes Go.WideShapes Go.ChangeAt
open Grf (Pr GR Ok nearP)
open Nodes (Tabs encV each_any each_stops_of boxed_kept mem ret_int)
open Mrk (Marks marks_leave wpListIn_make_full)
set_option linter.unusedVariables false
attribute [local go_sem] Oper.semAt_some
/-- The list of distances in a block of the call's own, its slice in a box. -/
structure DS (base g B n : Nat) (zs : List Int) (W : World) : Prop where
  box : Boxed W B 30 (.slice (some ⟨g, 0, none⟩) n n)
  own : W.ownsRow base 3 1 (.slice (some ⟨g, 0, none⟩) n n) n (zs.map (Value.int .i64))
section
variable {base g B n : Nat} {zs : List Int} {W V : World}
theorem DS.below (h : DS base g B n zs W) (hB : Below W.heap.size W V) : DS base g B n zs V :=
  ⟨(hB.block B h.box.lt).trans h.box, World.ownsRow.kept h.own (row := Option.none) ⟨hB.os, hB.tape, hB.output, hB.size, fun j hj _ => hB.block j hj⟩ (by simp [Value.ownBlock])⟩
theorem DS.keeps {row : Option Nat} (h : DS base g B n zs W) (hg : W.grownBy V row) (hr : ∀ r, row = some r → ∃ o : Obj, W.heap[r]? = some o ∧ o.isCells = false) : DS base g B n zs V := by
  refine ⟨boxed_kept h.box hg hr, h.own.kept hg (.inr fun e => ?_)⟩
  obtain ⟨o, ho, hc⟩ := hr g (by simpa [Value.ownBlock] using e.symm)
  rcases h.own.2 with ⟨h', _⟩ | ⟨g', cap', cur, hv, _, hgb, _⟩
  · cases h'
  · simp only [Value.slice.injEq, Option.some.injEq, Addr.mk.injEq, and_true, true_and] at hv
    obtain ⟨rfl, rfl⟩ := hv
    rw [hgb] at ho; cases ho; cases hc
theorem DS.ne (h : DS base g B n zs W) : B ≠ g := fun e => by
  have := h.box.not_row (e := 3) (by decide) h.own
  simp [Value.ownBlock] at this
  exact this e
theorem DS.len (h : DS base g B n zs W) : zs.length = n := by have := h.own.1; simpa using this
theorem DS.base_le (h : DS base g B n zs W) : base ≤ g := (h.own.lt g (by simp [Value.ownBlock])).1
theorem DS.frozen (h : DS base g B n zs W) (x : Nat) : W.frozen? ⟨g, x, none⟩ = false := h.own.frozenAt x
theorem DS.cell (h : DS base g B n zs W) {x : Nat} (hx : x < n) : W.cell? ⟨g, x, none⟩ = some (.int .i64 (zs.getD x 0)) := by
  rw [h.own.cellAt x (by omega)]
  have : x < zs.length := by rw [h.len]; exact hx
  simp [this]
theorem DS.set (h : DS base g B n zs W) (x : Nat) (v : Int) : DS base g B n (zs.set x v) (W.setCell ⟨g, x, none⟩ (.int .i64 v)) := by
  refine ⟨(Below.heap_setCell _ _ _ B h.ne).trans h.box, ?_⟩
  rw [List.map_set]
  exact (h.own.stored x _).1
end
theorem DS.cast {base g B n : Nat} {zs ys : List Int} {W : World} (h : DS base g B n zs W) (e : zs = ys) : DS base g B n ys W := by rw [← e]; exact h
theorem DS.putD {base g B n : Nat} {zs : List Int} {W : World} {D : Nat} (h : DS base g B n zs W) (hK : W.heap[D]? = some (.deferred (some []))) : DS base g B n zs (W.putObj D (.deferred none)) :=
  h.keeps (grownBy_putObj' W D (.deferred none)) (fun r e => by cases e; exact ⟨_, hK, rfl⟩)
theorem DS.ownL {base g B n : Nat} {zs : List Int} {W : World} (h : DS base g B n zs W) : Nodes.OwnL W base (.slice (some ⟨g, 0, none⟩) n n) zs := by
  unfold Nodes.OwnL
  rw [h.len]
  exact h.own
theorem RdU.keeps {A B : World} {row : Option Nat} {ad : Option Addr} {zs : List Nat} (h : RdU A ad zs) (hg : A.grownBy B row) (hr : ∀ r, row = some r → ∃ o : Obj, A.heap[r]? = some o ∧ o.isCells = false) : RdU B ad zs := fun i hi => by
  obtain ⟨b, e, hb, hc⟩ := h i hi
  exact ⟨b, e, Nat.lt_of_lt_of_le hb hg.size, cell_kept hc hg hr⟩
theorem RdU.far {W : World} {b g x : Nat} {zs : List Nat} (h : RdU W (some ⟨b, 0, none⟩) zs) (hne : b ≠ g) (u : Value) : RdU (W.setCell ⟨g, x, none⟩ u) (some ⟨b, 0, none⟩) zs := fun i hi => by
  obtain ⟨b', e, hb, hc⟩ := h i hi
  cases e
  refine ⟨b, rfl, by simpa using hb, ?_⟩
  have e2 : (W.setCell ⟨g, x, none⟩ u).heap[b]? = W.heap[b]? := Below.heap_setCell _ _ _ b hne
  rw [World.cell?] at hc ⊢
  rw [e2]
  exact hc
theorem Boxed.far {W : World} {b g x : Nat} {t : TypeId} {v : Value} (h : Boxed W b t v) (hne : b ≠ g) (u : Value) : Boxed (W.setCell ⟨g, x, none⟩ u) b t v := (Below.heap_setCell _ _ _ b hne).trans h
theorem Marks.from' {β : Type} {base top B : Nat} {ds : List Deferred} (hB : top ≤ B) : OwnFrom B (fun (_ : β) W => Marks base top ds W) := fun s A C row hs hg hr =>
  hs.same fun D h1 h2 => (hg.block D (Array.getElem?_eq_some_iff.1 h2).1 (fun e => by have := (hr D e.symm).1; omega)).trans h2
theorem rep_step {n k : Nat} (h : k < n) : (List.replicate k (-1 : Int) ++ List.replicate (n - k) 0).set k (-1) = List.replicate (k + 1) (-1) ++ List.replicate (n - (k + 1)) 0 := by
  apply List.ext_getElem?
  intro j
  rw [List.getElem?_set]
  by_cases hj : k = j
  · subst hj
    rw [if_pos rfl, if_pos (by simp; omega), List.getElem?_append_left (by simp), List.getElem?_replicate, if_pos (by omega)]
  · rw [if_neg hj]
    by_cases hlt : j < k
    · rw [List.getElem?_append_left (by simpa using hlt), List.getElem?_append_left (by simp; omega), List.getElem?_replicate, List.getElem?_replicate, if_pos hlt, if_pos (by omega)]
    · rw [List.getElem?_append_right (by simp; omega), List.getElem?_append_right (by simp; omega), List.getElem?_replicate, List.getElem?_replicate]
      simp only [List.length_replicate]
      by_cases hn : j < n
      · rw [if_pos (by omega), if_pos (by omega)]
      · rw [if_neg (by omega), if_neg (by omega)]
def idxOf : Value → Nat | .int _ k => k.toNat | _ => 0
/-- The frame ahead of ring k. -/
def DJ (n S : Nat) (L : List Pr) (i : Nat) (p : Option Addr) (z : Int) (w : World) (g B c : Nat) (adr : Option Addr) (capr : Nat) (a : Act) (W : World) : Prop :=
  ∃ (k : Nat) (ds : List Deferred) (u3 u4 u5 u8 u9 u10 u11 u12 u13 u14 u15 u16 u17 u18 u19 u20 u21 u22 u23 u24 u25 u26 u30 u31 u32 u33 u34 u35 u36 u37 u38 u39 u40 u41 u42 : Value), a = { tmps := List.toArray (.pointer p :: .int .i64 z :: .int .u64 (S : Int) :: u3 :: u4 :: u5 :: .slice none 0 0 :: .pointer (some ⟨B, 0, none⟩) :: u8 :: u9 :: u10 :: u11 :: u12 :: u13 :: u14 :: u15 :: u16 :: u17 :: u18 :: u19 :: u20 :: u21 :: u22 :: u23 :: u24 :: u25 :: u26 :: .slice adr c capr :: .int .i64 (c : Int) :: .int .i64 (k : Int) :: u30 :: u31 :: u32 :: u33 :: u34 :: u35 :: u36 :: u37 :: u38 :: u39 :: u40 :: u41 :: u42 :: []), defers := ds } ∧
    k ≤ c ∧ DS w.heap.size g B n (farL n S L i (upK (n := n) (S := S) (L := L) (i := i) k)) W ∧ Below w.heap.size w W ∧ RdU W adr (ringsL n S L i c) ∧ Marks w.heap.size W.heap.size ds W
set_option maxRecDepth 100000 in
set_option maxHeartbeats 4000000 in
theorem dist_in (N : Nat) (hN3 : 3 ≤ N) (p : Option Addr) (n : Nat) (L : List Pr) (z : Int) (S : Nat) (hS : S < 18446744073709551616) (w : World) (h : GP w p n L) (hT : Tabs w) :
    CallsIn Fence.wide N Tryd.prog 11 #[.pointer p, .int .i64 z, .int .u64 S] w (Nodes.ListPost (dstL n S L (src z)) w) := by
  have h1 : 1 ≤ N := by omega
  obtain ⟨i0, hi, hz0, hz1, hz2⟩ := info_parts Nodes.infoInt
  have hn := h.le
  have HN := Lib.hid hn
  have CN := Lib.hid (gpn_any p n L w h)
  have CR := Lib.hid (fun W (hB : Below w.heap.size w W) => rings_any p n L z S hS W (h.below hB) (hT.below hB))
  have HT := Lib.hid hT
  clear h hT
  generalize src z = i at *
  refine callsIn_of_wp_marks Tryd.func11 rfl trivial ?_ rfl
  simp only [Tryd.ntmps11, List.size_toArray, List.length_cons, List.length_nil, Nat.reduceAdd, Nat.reduceSub, Array.replicate_succ, Array.replicate_zero, List.push_toArray, List.append_toArray, List.nil_append, List.cons_append]
  gi_wp2_with (first
    | (refine ⟨trivial, ?_⟩; gi_at_call 23; refine (callsIn_wide.2 (CN.out)).mono ?_; rintro e w' ⟨rfl, rfl⟩)
    | (gi_at_make; refine wpListIn_make_full _ rfl _ _ 30 rfl w.heap.size 3 i0 (.int .i64 0) 1 Tryd.underlying30 hi hz0 hz1 .i64 .i64 _ _ n rfl rfl rfl rfl (by rw [hz2]; omega) (by unfold maxLen; omega) (Nat.le_refl _) ?_; intro w1 hown1 hgrow1))
  have hrow : w1.ownsRow w.heap.size 3 1 (.slice (some ⟨w.heap.size, 0, none⟩) n n) n ((List.replicate n (0 : Int)).map (Value.int .i64)) := by
    have := hown1
    rw [Nat.mul_one, show (Value.int .i64 0).cells = #[.int .i64 0] from rfl, toList_madeCells_one] at this
    simpa using this
  have hB0 : Below w.heap.size w (w1.alloc (.cells #[.slice (some ⟨w.heap.size, 0, none⟩) n n] 30)) := ((Below.refl _ w).grown hgrow1 (Nat.le_refl _) (fun k e => by cases e)).alloc hgrow1.size _
  have hD0 : DS w.heap.size w.heap.size w1.heap.size n (List.replicate 0 (-1) ++ List.replicate (n - 0) 0) (w1.alloc (.cells #[.slice (some ⟨w.heap.size, 0, none⟩) n n] 30)) := ⟨Boxed.new w1 _ _, by rw [Nat.sub_zero, List.replicate_zero, List.nil_append]; exact hrow.alloc _⟩
  generalize w1.alloc (.cells #[.slice (some ⟨w.heap.size, 0, none⟩) n n] 30) = W2 at *
  have HD0 := Lib.hid hD0
  have HB0 := Lib.hid hB0
  clear hown1 hgrow1 hrow hB0 hD0
  obtain ⟨B, hBe⟩ : ∃ B, Hid (w1.heap.size = B) := ⟨_, Lib.hid rfl⟩
  rw [hBe.out] at HD0 ⊢
  clear hBe
  gi_loopw [17] (fun v wr => ∃ k : Nat, k ≤ n ∧ v = .int .i64 k ∧ Hid (DS w.heap.size w.heap.size B n (List.replicate k (-1) ++ List.replicate (n - k) 0) wr) ∧ Hid (Below w.heap.size w wr)) (fun v _ => n - (intOf v).toNat)
  case atStart => exact ⟨0, Nat.zero_le _, rfl, HD0, HB0⟩
  case round =>
    obtain ⟨k, hk, rfl, HD, HB⟩ := hrel
    by_cases hlt : k < n
    · have c0 := HD.out.box.cell
      have c1 := HD.out.cell hlt
      have f1 := HD.out.frozen k
      have HS := Lib.hid (HD.out.set k (-1))
      rw [rep_step hlt] at HS
      have HBS := Lib.hid (HB.out.setCell (p := ⟨w.heap.size, k, none⟩) (Nat.le_refl _) (.int .i64 (-1)))
      gi_wp2
      go_roundw
      case rel => exact ⟨k + 1, by omega, by go_num, HS, HBS⟩
      case measure => simp [intOf]; omega
    · obtain rfl : n = k := by omega
      have HD1 : Hid (DS w.heap.size w.heap.size B n (farL n S L i (upK (n := n) (S := S) (L := L) (i := i) 0)) wr) := Lib.hid (by have := HD.out; rw [Nat.sub_self, List.replicate_zero, List.append_nil] at this; rw [far_zero]; exact this)
      have CRR := Lib.hid (CR.out wr HB.out)
      clear CR CN HD
      gi_wp2_with (refine ⟨trivial, ?_⟩; gi_at_call 24; refine (callsIn_wide.2 (CRR.out)).mono ?_; rintro e w3 ⟨c, adr, capr, rfl, hcnt, hownr, hB3⟩)
      have HD3 := Lib.hid (HD1.out.below hB3)
      have HB3 := Lib.hid (HB.out.trans (hB3.mono HB.out.size))
      have HRD := Lib.hid hownr.rd.1
      have HBG : Hid (∀ b, adr = some ⟨b, 0, none⟩ → 0 < c → b ≠ w.heap.size) := Lib.hid (fun b e hc => by
        have hlt := (hownr.lt b (by rw [e]; rfl)).1
        have := HD1.out.box.lt
        have h2 := HD1.out.own.lt w.heap.size rfl
        omega)
      have HLEN := Lib.hid (rings_len (n := n) (S := S) (L := L) (i := i) c)
      have HALL := Lib.hid (far_all (n := n) (S := S) (L := L) (i := i) hcnt.1)
      have hcn := cnt_le hcnt
      clear hcnt hownr hB3 CRR HD1 HB HB0 HD0
      refine wpIn_loop (DJ n S L i p z w w.heap.size B c adr capr) (fun a _ => c - idxOf (a.tmps.getD 29 undef)) ?start ?round
      case start =>
        exact ⟨0, [], _, _, _, _, _, _, _, _, _, _, _, _, _, _, _, _, _, _, _, _, _, _, _, _, _, _, _, _, _, _, _, _, _, _, _, rfl, Nat.zero_le _, HD3.out, HB3.out, HRD.out, trivial⟩
      case round =>
        rintro a W ⟨k, ds, u3, u4, u5, u8, u9, u10, u11, u12, u13, u14, u15, u16, u17, u18, u19, u20, u21, u22, u23, u24, u25, u26, u30, u31, u32, u33, u34, u35, u36, u37, u38, u39, u40, u41, u42, rfl, hk, hD, hB, hrd, hM⟩
        have HD := Lib.hid hD
        have HB := Lib.hid hB
        have HM := Lib.hid hM
        clear HD3 HB3 HRD
        by_cases hlt : k < c
        · obtain ⟨b, rfl, hbl, hcb⟩ := hrd k (by rw [HLEN.out]; exact hlt)
          rw [rings_at hlt] at hcb
          have HRW := Lib.hid hrd
          have hbg := HBG.out b rfl (by omega)
          have hrl := ring_lt (n := n) (S := S) (L := L) (i := i) k
          have hval : ∀ x ∈ mem (ringN n S L i k), ∃ a : {x : Nat // dst n S L i x = (k : Int)}, a.1 = x := fun x hx => ⟨⟨x, by have := (Nodes.mem_mem.1 hx).2; rw [bit_ring HN.out, beq_iff_eq] at this; exact this⟩, rfl⟩
          have HFR := Lib.hid (far_ring (L := L) (S := S) (i := i) HN.out k)
          have CE := Lib.hid (fun V => each_any (ringN n S L i k) V)
          have HVAL := Lib.hid hval
          have HRL := Lib.hid hrl
          have HML : Hid ((mem (ringN n S L i k)).length ≤ 64) := Lib.hid (Nodes.mem_le _)
          clear hD hB hM hrd hval hrl
          generalize hrg : ringN n S L i k = rg at *
          gi_wp2_with (refine ⟨trivial, ?_⟩; gi_at_call 25; refine (callsIn_wide.2 (CE.out _)).mono ?_; rintro e w' ⟨rfl, rfl⟩)
          have bD := (Boxed.new W 3 (.int .i64 (k : Int))).alloc (.cells #[.int .u64 (rg : Int)] 34)
          have bS := Boxed.new (W.alloc (.cells #[.int .i64 (k : Int)] 3)) 34 (.int .u64 (rg : Int))
          have hBW : Below W.heap.size W ((W.alloc (.cells #[.int .i64 (k : Int)] 3)).alloc (.cells #[.int .u64 (rg : Int)] 34)) := ((Below.refl _ W).alloc (Nat.le_refl _) _).alloc (by simp) _
          rw [World.size_alloc] at bS
          obtain ⟨W0, hW0⟩ : ∃ W0, (W.alloc (.cells #[.int .i64 (k : Int)] 3)).alloc (.cells #[.int .u64 (rg : Int)] 34) = W0 := ⟨_, rfl⟩
          have hs0 : W0.heap.size = W.heap.size + 1 + 1 := by rw [← hW0]; simp
          rw [hW0] at bD bS hBW ⊢
          have hB0 := HB.out.trans (hBW.mono HB.out.size)
          have hTL := HT.out.below hB0
          have hwW := HB.out.size
          refine wpIn_rangeFunc_ownG rfl h1 (gf := 36) (lb := #[.pointer (some ⟨W.heap.size + 1, 0, none⟩)]) rfl trivial (enters_of Tryd.func36 (by kernel_rfl) rfl)
            (each_stops_of (α := {x : Nat // dst n S L i x = (k : Int)}) Subtype.val (N - 1) (by omega) (W.heap.size + 1) w.heap.size rg HRL.out HVAL.out W0 (by omega) (by omega) bS.cell hTL HT.out.2) belowK_t (belowK_b (by omega)) (Below.refl _ _) (fun _ => rfl)
            (fun pre V => ((DS w.heap.size w.heap.size B n (farL n S L i (fun x => upK (n := n) (S := S) (L := L) (i := i) k x || decide (x ∈ pre.map Subtype.val))) V ∧ Boxed V W.heap.size 3 (.int .i64 (k : Int)) ∧ RdU V (some ⟨b, 0, none⟩) (ringsL n S L i c)) ∧ Below w.heap.size w V) ∧ Marks w.heap.size W.heap.size ds V)
            (fun _ _ _ => False)
            (OwnFrom.and (OwnFrom.and (Own.from (fun s A B row hs hg hr => ⟨hs.1.keeps hg hr, boxed_kept hs.2.1 hg hr, hs.2.2.keeps hg hr⟩) _) (ownFrom_below (Nat.le_refl _) (by omega))) (Marks.from' (by omega)))
            (fun _ _ _ _ _ hs _ _ => hs)
            ⟨⟨⟨by simpa using HD.out.below hBW, bD, HRW.out.below hBW⟩, hB0⟩, HM.out.below hBW⟩
            (fun x => { tmps := List.toArray (.pointer p :: .int .i64 z :: .int .u64 (S : Int) :: u3 :: u4 :: u5 :: .slice none 0 0 :: .pointer (some ⟨B, 0, none⟩) :: u8 :: .pointer (some ⟨W.heap.size, 0, none⟩) :: .int .u64 (rg : Int) :: .int .i64 ((x.1 : Nat) : Int) :: u12 :: u13 :: u14 :: u15 :: u16 :: u17 :: u18 :: u19 :: u20 :: u21 :: u22 :: u23 :: u24 :: u25 :: u26 :: .slice (some ⟨b, 0, none⟩) c capr :: .int .i64 (c : Int) :: .int .i64 (k : Int) :: .bool true :: .int .i64 (k : Int) :: .pointer (some ⟨b, k, none⟩) :: .int .u64 (rg : Int) :: .int .u64 (rg : Int) :: .func (.func 36) #[] #[.pointer (some ⟨W.heap.size + 1, 0, none⟩)] :: .int .i64 ((x.1 : Nat) : Int) :: u37 :: u38 :: u39 :: u40 :: u41 :: u42 :: []), defers := [] }) ?assign ?body ?done ?stop
          case assign =>
            intro l x V K hK
            unfold encV
            gi_wp2
            exact hK
          case body =>
            rintro l pre x V ⟨⟨⟨hDS, hbD, hrd⟩, hBV⟩, hMV⟩ _
            have hx0 := x.2
            have hxn : x.1 < n := here_lt (dst_here (n := n) (S := S) (L := L) (i := i) (x := x.1) (by rw [hx0]; omega)).1
            have c0 := hDS.box.cell
            have c1 := hDS.cell hxn
            have f1 := hDS.frozen x.1
            have c2 := hbD.cell
            have hlt2 : w.heap.size < W.heap.size := by have := HD.out.own.lt w.heap.size rfl; omega
            have HP : Hid (KeepsFrom W0.heap.size V (V.setCell ⟨w.heap.size, x.1, none⟩ (.int .i64 (k : Int))) ∧ Below w.heap.size V (V.setCell ⟨w.heap.size, x.1, none⟩ (.int .i64 (k : Int))) ∧ ((DS w.heap.size w.heap.size B n (farL n S L i (fun y => upK (n := n) (S := S) (L := L) (i := i) k y || decide (y ∈ (pre ++ [x]).map Subtype.val))) (V.setCell ⟨w.heap.size, x.1, none⟩ (.int .i64 (k : Int))) ∧
                Boxed (V.setCell ⟨w.heap.size, x.1, none⟩ (.int .i64 (k : Int))) W.heap.size 3 (.int .i64 (k : Int)) ∧ RdU (V.setCell ⟨w.heap.size, x.1, none⟩ (.int .i64 (k : Int))) (some ⟨b, 0, none⟩) (ringsL n S L i c)) ∧ Below w.heap.size w (V.setCell ⟨w.heap.size, x.1, none⟩ (.int .i64 (k : Int)))) ∧ Marks w.heap.size W.heap.size ds (V.setCell ⟨w.heap.size, x.1, none⟩ (.int .i64 (k : Int)))) := Lib.hid (by
              have hb2 := (Below.refl w.heap.size V).setCell (p := ⟨w.heap.size, x.1, none⟩) (Nat.le_refl _) (.int .i64 (k : Int))
              refine ⟨(KeepsOthers.setCell _ _ _).from _, hb2, ⟨⟨?_, Boxed.far hbD (by omega) _, hrd.far hbg _⟩, hBV.trans hb2⟩, hMV.others (KeepsOthers.setCell _ _ _)⟩
              refine (hDS.set x.1 (k : Int)).cast ?_
              have e := far_set (S := S) (L := L) (i := i) (n := n) (fun y => upK (n := n) (S := S) (L := L) (i := i) k y || decide (y ∈ pre.map Subtype.val)) x.1
              rw [hx0] at e
              rw [e]
              refine far_congr fun y hy => .inl ?_
              rw [Bool.or_assoc]
              congr 1
              rw [List.map_append, Bool.eq_iff_iff]
              simp)
            generalize x.1 = xv at *
            clear hDS hbD hrd hBV hMV
            gi_wp2
            exact HP.out
          case done =>
            rintro D ys V hD hys ⟨⟨⟨hDS, hbD, hrd⟩, hBV⟩, hMV⟩ hK
            have hys' : ys.map Subtype.val = mem rg := hys
            rw [hys', HFR.out] at hDS
            gi_wp2
            refine ⟨⟨k + 1, _, _, _, _, _, _, _, _, _, _, _, _, _, _, _, _, _, _, _, _, _, _, _, _, _, _, _, _, _, _, _, _, _, _, _, _, rfl, by omega, hDS, hBV, hrd, hMV.push (by omega) (by omega) (Array.getElem?_eq_some_iff.1 hK).1 hK⟩, ?_⟩
            simp [idxOf]
            omega
          case stop =>
            rintro D c pre W _ _ h _
            exact h.elim
        · obtain rfl : k = c := by omega
          rw [HALL.out] at HD
          have c0 := HD.out.box.cell
          clear hD hB hM hrd
          gi_wp2
          refine marks_leave (K := fun V => DS w.heap.size w.heap.size B n (dstL n S L i) V ∧ Below w.heap.size w V) (fun V D hD hK hV => ⟨hV.1.putD hK, hV.2.trans (belowK_b (w := w) (Nat.le_refl _) V D _ _ hD hK rfl rfl)⟩) (fun V hV => ⟨_, results_tmp rfl _ _ _, some ⟨w.heap.size, 0, none⟩, n, by rw [dst_len]; rfl, by rw [dst_len]; exact hV.1.ownL, hV.2⟩) ds W HM.out ⟨HD.out, HB.out⟩
theorem dist_any (p : Option Addr) (n : Nat) (L : List Pr) (z : Int) (S : Nat) (hS : S < 18446744073709551616) (w : World) (h : GP w p n L) (hT : Tabs w) :
    Calls Tryd.prog 11 #[.pointer p, .int .i64 z, .int .u64 S] w (Nodes.ListPost (dstL n S L (src z)) w) := callsIn_wide.1 (dist_in 3 (Nat.le_refl _) p n L z S hS w h hT)
end Go.Proofs.YtcfdnbdemiokeaaDoor.Rea
