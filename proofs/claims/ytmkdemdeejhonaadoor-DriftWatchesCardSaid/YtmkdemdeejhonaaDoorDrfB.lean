/- Contracts of package drift (layer 28): a note out of a list. -/
import Derived.Test.YtmkdemdeejhonaaDoorDrfA
import Derived.Test.YtmkdemdeejhonaaDoorEachA
import Derived.Test.YtmkdemdeejhonaaDoorI64A
import Derived.Deep.RegionHeld3
import Derived.BigRegion
namespace Go.Proofs.YtmkdemdeejhonaaDoor.Drf
open Go.RowKit Go.Shelf Go.ChangeShapes Go.WideShapes Go.ChangeAt
open Go.Proofs.YtmkdemdeejhonaaDoor.Rw
open Nodes (Tabs encV each_any each_stops_of boxed_kept mem mem_mem ret_int)
set_option linter.unusedVariables false
attribute [local go_sem] Oper.semAt_some
def zs64 : List Value := (List.range 64).map fun _ => .int .i64 0
theorem zeroN (w : World) : (zeroValue 50).run Tryd.prog w = .ok (.agg (.int .i64 0 :: .int .u64 0 :: zs64).toArray) w := by kernel_rfl
theorem put_same {w : World} {g : Nat} {t : TypeId} {x y : Value} {zs : List Value} (h : Blk w g t (x :: y :: zs).toArray) (h1 : ∀ v ∈ zs, v.oneCell' = true) :
    (storeCells ⟨g, 0, none⟩ zs 2).run Tryd.prog w = .ok () w := by
  have hs := run_storeCells_at Tryd.prog g 0 t zs 2 (x :: y :: zs).toArray w h (by simp; omega) h1
  rw [hs]
  have e : ((x :: y :: zs).toArray.toList.take (0 + 2) ++ zs ++ (x :: y :: zs).toArray.toList.drop (0 + 2 + zs.length)).toArray = (x :: y :: zs).toArray := by
    simp
    omega
  rw [e, setRow_self w g _ t (0, 0) h]
theorem zs_one : ∀ v ∈ zs64, v.oneCell' = true := fun v hv => by
  obtain ⟨i, _, rfl⟩ := List.mem_map.1 hv
  rfl
theorem blk_kept {A B : World} {row : Option Nat} {b : Nat} {t : TypeId} {cs : Array Value} (h : Blk A b t cs) (hg : A.grownBy B row) (hr : ∀ r, row = some r → ∃ o : Obj, A.heap[r]? = some o ∧ o.isCells = false) : Blk B b t cs :=
  h.grown hg (fun e => by
    obtain ⟨o, ho, hc⟩ := hr b e.symm
    have := ho.symm.trans h
    injection this with this
    rw [this] at hc
    cases hc)
theorem blk_putObj {w : World} {g D : Nat} {t : TypeId} {cs : Array Value} (h : Blk w g t cs) (o : Obj) (hne : g ≠ D) : Blk (w.putObj D o) g t cs := (World.putObj_heap_other hne).trans h
theorem results_note {fn : Func} {i : Nat} (h : fn.results = #[.cell i 50]) (tmps : Array Value) (w : World) (g : Nat) (cs : Array Value)
    (hp : tmps.getD i undef = .pointer (some ⟨g, 0, none⟩)) (hg : Blk w g 50 cs) (hs : cs.size = 66) :
    (results fn tmps).run Tryd.prog w = .ok (.agg cs) w :=
  results_cell_row h tmps w g 50 cs (0, 0) _ hp hg Tryd.underlying50 rfl (by rw [hs]; exact infoN)
theorem store_res {ops : Array Oper} {rest : List Oper} {o : Oper} {a : Act} {w : World} {Q : Exit → Act → World → Prop} (hgd : o.guard = none) (x y : Operand) (ho : o.op = .store 50 x y)
    (g : Nat) (cs : List Value) (hx : a.eval x = .pointer (some ⟨g, 0, none⟩)) (hy : a.eval y = .agg cs.toArray) (hs : cs.length = 66) (h1 : ∀ v ∈ cs, v.oneCell' = true) (old : Array Value) (hg : Blk w g 50 old) (hold : old.size = 66)
    (h : wpList Tryd.prog ops Q rest (a.put o.dst undef) (w.setRow g cs.toArray)) : wpList Tryd.prog ops Q (o :: rest) a w :=
  wpList_store_row hgd 50 x y ho g cs.toArray hx hy 50 old hg (by rw [List.size_toArray, hs]; exact infoN) (hold.trans (by rw [List.size_toArray, hs])) (Array.all_eq_true_iff_forall_mem.2 (fun v hv => h1 v (by simpa using hv))) h
abbrev In (S : Nat) := {x : Nat // x ∈ mem S}
def valN {S : Nat} (pre : List (In S)) : List Nat := pre.map Subtype.val
/-- A part of a row, put. -/
theorem part_put {V : World} {g : Nat} {t : Int} {s : Nat} {n : Nt} {l : List Nat} (h : Blk V g 50 (row t s (part n l)).toArray) {i : Nat} (hi : i < 64) :
    Blk (V.setCell ⟨g, 2 + i, none⟩ (.int .i64 (n.t i))) g 50 (row t s (part n (l ++ [i]))).toArray := by
  have := h.put (2 + i) (.int .i64 (n.t i))
  rw [List.setIfInBounds_toArray, row_set _ _ _ hi, part_snoc] at this
  exact this
set_option maxRecDepth 100000 in
set_option maxHeartbeats 4000000 in
theorem noted_in (N : Nat) (hN3 : 3 ≤ N) (tick : Int) (ad : Option Addr) (cap : Nat) (l : List Int) (S : Nat) (hS : S < 18446744073709551616) (w : World) (h : I64s.Sl w ad cap l) (hT : Tabs w) :
    CallsIn Fence.wide N Tryd.prog 18 #[.int .i64 tick, .slice ad l.length cap, .int .u64 (S : Int)] w fun e w' => e = .returned (.agg (ncells ⟨tick, l, S⟩).toArray) ∧ Below w.heap.size w w' := by
  have h1 : 1 ≤ N := by omega
  have CE := Lib.hid (fun S W => each_any S W)
  have CK := Lib.hid (fun x W => kept_any x W)
  have hzz := zeroN
  have hz1 := zs_one
  have hzl : zs64.length = 64 := rfl
  have HZ0 : Hid (∀ (t : Int) (s : Nat), (.int .i64 t :: .int .u64 (s : Int) :: zs64) = row t s (part ⟨tick, l, S⟩ [])) := Lib.hid (fun t s => by rw [part_nil]; rfl)
  generalize zs64 = zs at *
  have hlm : l.length ≤ 9223372036854775807 := Nat.le_trans h.le h.mx
  have CA := Lib.hid (fun W => Nodes.all_any (l.length : Int) (by omega) (by omega) W)
  have hA := u64_and_nat S (Nodes.allN (l.length : Int)) hS (Nodes.setP_lt _)
  obtain ⟨sN, hsN⟩ : ∃ sN, Hid (Nt.s ⟨tick, l, S⟩ = sN) := ⟨_, Lib.hid rfl⟩
  rw [show S &&& Nodes.allN (l.length : Int) = sN from hsN.out] at hA
  have hsS : sN < 18446744073709551616 := by rw [← hsN.out]; exact s_lt hS
  obtain ⟨kt, hkt⟩ : ∃ kt, Hid (kp tick = kt) := ⟨_, Lib.hid rfl⟩
  have CK0 := Lib.hid (fun W => CK.out tick W)
  rw [hkt.out] at CK0
  refine callsIn_of_wp_marks Tryd.func18 rfl trivial ?_ rfl
  simp only [Tryd.ntmps18, List.size_toArray, List.length_cons, List.length_nil, Nat.reduceAdd, Nat.reduceSub, Array.replicate_succ, Array.replicate_zero, List.push_toArray, List.append_toArray, List.nil_append, List.cons_append]
  gi_wp2_with fail
  have bL := (Boxed.new w 26 (.slice ad l.length cap)).alloc (.cells (Value.int .i64 0 :: Value.int .u64 0 :: zs).toArray 50)
  have bR := Blk.new (w.alloc (.cells #[.slice ad l.length cap] 26)) 50 (Value.int .i64 0 :: Value.int .u64 0 :: zs).toArray
  have hB0 : Below w.heap.size w ((w.alloc (.cells #[.slice ad l.length cap] 26)).alloc (.cells (Value.int .i64 0 :: Value.int .u64 0 :: zs).toArray 50)) := ((Below.refl _ w).alloc (Nat.le_refl _) _).alloc (by simp) _
  simp only [World.size_alloc] at bR
  obtain ⟨W0, hW0⟩ : ∃ W0, (w.alloc (.cells #[.slice ad l.length cap] 26)).alloc (.cells (Value.int .i64 0 :: Value.int .u64 0 :: zs).toArray 50) = W0 := ⟨_, rfl⟩
  have hs0 : W0.heap.size = w.heap.size + 1 + 1 := by rw [← hW0]; simp
  rw [hW0] at bL bR hB0 ⊢
  clear hW0
  have hst : ∀ x y, (storeCells ⟨w.heap.size + 1 + 1, 0, none⟩ zs 2).run Tryd.prog (W0.alloc (.cells (x :: y :: zs).toArray 50)).drew = .ok () (W0.alloc (.cells (x :: y :: zs).toArray 50)).drew := fun x y =>
    put_same (t := 50) (x := x) (y := y) (by rw [← hs0]; exact Blk.new W0 _ _) hz1
  have hmx : Tryd.prog.follows .mixedOrders = true := by kernel_rfl
  rename_i Q' K hKK
  have CONT : Hid (Exit.then K Q' .normal
      { tmps := #[.int .i64 tick, .slice ad l.length cap, .int .u64 (S : Int), undef, .pointer (some ⟨w.heap.size, 0, none⟩), undef, .pointer (some ⟨w.heap.size + 1, 0, none⟩), .pointer (some ⟨w.heap.size + 1 + 1, 0, none⟩), undef, .int .i64 tick,
          .int .i64 kt, .int .u64 (S : Int), .slice ad l.length cap, .int .i64 (l.length : Int), .int .u64 (Nodes.allN (l.length : Int) : Nat), .int .u64 (sN : Int), .agg (.int .i64 kt :: .int .u64 (sN : Int) :: zs).toArray,
          undef, undef, undef, undef, undef, undef, undef, undef, undef, undef, undef, undef, undef], defers := [] }
      (W0.alloc (.cells (.int .i64 kt :: .int .u64 (sN : Int) :: zs).toArray 50)).drew) := by
    have bN := Blk.new W0 50 (.int .i64 kt :: .int .u64 (sN : Int) :: zs).toArray
    rw [HZ0.out, hs0] at bN
    have bL1 := (bL.alloc (.cells (.int .i64 kt :: .int .u64 (sN : Int) :: zs).toArray 50))
    have bR1 := (bR.alloc (.cells (.int .i64 kt :: .int .u64 (sN : Int) :: zs).toArray 50))
    have hB1 := (hB0.alloc (by omega) (.cells (.int .i64 kt :: .int .u64 (sN : Int) :: zs).toArray 50)).drew
    have hs1 : (W0.alloc (.cells (.int .i64 kt :: .int .u64 (sN : Int) :: zs).toArray 50)).drew.heap.size = w.heap.size + 1 + 1 + 1 := by show (W0.alloc _).heap.size = _; simp [hs0]
    rw [HZ0.out] at bL1 bR1 hB1 hs1 ⊢
    have bN1 : Blk (W0.alloc (.cells (row kt sN (part ⟨tick, l, S⟩ [])).toArray 50)).drew (w.heap.size + 1 + 1) 50 (row kt sN (part ⟨tick, l, S⟩ [])).toArray := bN
    have bR1 : Blk (W0.alloc (.cells (row kt sN (part ⟨tick, l, S⟩ [])).toArray 50)).drew (w.heap.size + 1) 50 (Value.int .i64 0 :: Value.int .u64 0 :: zs).toArray := bR1
    have bL1 : Boxed (W0.alloc (.cells (row kt sN (part ⟨tick, l, S⟩ [])).toArray 50)).drew w.heap.size 26 (.slice ad l.length cap) := bL1
    obtain ⟨W1, hW1⟩ : ∃ W1, (W0.alloc (.cells (row kt sN (part ⟨tick, l, S⟩ [])).toArray 50)).drew = W1 := ⟨_, rfl⟩
    rw [hW1] at bL1 bR1 hB1 hs1 bN1 ⊢
    clear hW1 bN bL bR hB0 hst hzz CK0 CA hA
    have hN1 : W1.cell? ⟨w.heap.size + 1 + 1, 1, none⟩ = some (.int .u64 (sN : Int)) := by
      rw [bN1.cell 1]; simp [row]
    refine hKK _ _ ?_
    obtain ⟨agv, hagv⟩ : ∃ v : Value, Hid (v = .agg (row kt sN (part ⟨tick, l, S⟩ [])).toArray) := ⟨_, Lib.hid rfl⟩
    rw [← hagv.out]
    clear hagv hKK K
    gi_wp2_with (refine ⟨trivial, ?_⟩; gi_at_call 25; refine (callsIn_wide.2 (CE.out _ _)).mono ?_; rintro e w' ⟨rfl, rfl⟩)
    rename_i K2 hKK2
    have bL2 := bL1.alloc (.cells #[.int .u64 (sN : Int)] 33)
    have bR2 := bR1.alloc (.cells #[.int .u64 (sN : Int)] 33)
    have bN2 := bN1.alloc (.cells #[.int .u64 (sN : Int)] 33)
    have hB2 := hB1.alloc (by omega) (.cells #[.int .u64 (sN : Int)] 33)
    have bS := Boxed.new W1 33 (.int .u64 (sN : Int))
    rw [hs1] at bS
    obtain ⟨V0, hV0⟩ : ∃ V0, W1.alloc (.cells #[.int .u64 (sN : Int)] 33) = V0 := ⟨_, rfl⟩
    have hs2 : V0.heap.size = w.heap.size + 1 + 1 + 1 + 1 := by rw [← hV0]; simp [hs1]
    rw [hV0] at bL2 bR2 bN2 hB2 bS ⊢
    have hTL := hT.below hB2
    have HH := Lib.hid h
    have HSN := Lib.hid (fun x (hx : x ∈ mem sN) => show x < 64 ∧ x < l.length from ⟨(mem_mem.1 hx).1, s_len (n := ⟨tick, l, S⟩) (by rw [hsN.out]; exact (mem_mem.1 hx).2)⟩)
    clear hV0 bL1 bR1 bN1 hB1 hN1 hs1 h
    refine wpIn_rangeFunc_ownG rfl h1 (gf := 30) (lb := #[.pointer (some ⟨w.heap.size + 1 + 1 + 1, 0, none⟩)]) rfl trivial (enters_of Tryd.func30 (by kernel_rfl) rfl)
      (each_stops_of (α := In sN) Subtype.val (N - 1) (by omega) (w.heap.size + 1 + 1 + 1) w.heap.size sN hsS (fun x hx => ⟨⟨x, hx⟩, rfl⟩) V0 (by omega) (by omega) bS.cell hTL hT.2) belowK_t (belowK_b (by omega)) (Below.refl _ _) (fun _ => rfl)
      (fun pre V => (Boxed V w.heap.size 26 (.slice ad l.length cap) ∧ Blk V (w.heap.size + 1) 50 (Value.int .i64 0 :: Value.int .u64 0 :: zs).toArray ∧ Blk V (w.heap.size + 1 + 1) 50 (row kt sN (part ⟨tick, l, S⟩ (valN pre))).toArray) ∧ Below w.heap.size w V)
      (fun _ _ _ => False)
      (OwnFrom.and (Own.from (fun s A B row hs hg hr => ⟨boxed_kept hs.1 hg hr, blk_kept hs.2.1 hg hr, blk_kept hs.2.2 hg hr⟩) _) (ownFrom_below (Nat.le_refl _) (by omega)))
      (fun _ _ _ _ _ hs _ _ => hs)
      ⟨⟨bL2, bR2, bN2⟩, hB2⟩
      (fun x => { tmps := #[.int .i64 tick, .slice ad l.length cap, .int .u64 (S : Int), undef, .pointer (some ⟨w.heap.size, 0, none⟩), undef, .pointer (some ⟨w.heap.size + 1, 0, none⟩), .pointer (some ⟨w.heap.size + 1 + 1, 0, none⟩), .int .i64 ((x.1 : Nat) : Int), .int .i64 tick,
          .int .i64 kt, .int .u64 (S : Int), .slice ad l.length cap, .int .i64 (l.length : Int), .int .u64 (Nodes.allN (l.length : Int) : Nat), .int .u64 (sN : Int), agv, .pointer (some ⟨w.heap.size + 1 + 1, 1, none⟩), .int .u64 (sN : Int),
          .func (.func 30) #[] #[.pointer (some ⟨w.heap.size + 1 + 1 + 1, 0, none⟩)], .int .i64 ((x.1 : Nat) : Int), undef, undef, undef, undef, undef, undef, undef, undef, undef], defers := [] }) ?assign ?body ?done ?stop
    case assign =>
      intro l' x V K hK
      unfold encV
      gi_wp2
      exact hK
    case body =>
      rintro l' pre x V ⟨⟨hL, hR, hN⟩, hB⟩ _
      obtain ⟨hx64, hxl⟩ := HSN.out x.1 x.2
      obtain ⟨bb, off, had, hcx⟩ := HH.out.at hxl
      have cX := hcx V hB
      have cL := hL.cell
      have fN := hN.free (2 + x.1)
      have cN := hN.cell (2 + x.1)
      simp only [List.getElem?_toArray] at cN
      rw [row_at _ _ _ hx64] at cN
      have CKx := Lib.hid (fun W => CK.out (l.getD x.1 0) W)
      have hxl1 : ((x.1 : Nat) : Int) < (l.length : Int) := by omega
      have hx64' : ((x.1 : Nat) : Int) < 64 := by omega
      have hx0 : (0 : Int) ≤ ((x.1 : Nat) : Int) := by omega
      have HF : Hid (KeepsFrom V0.heap.size V (V.setCell ⟨w.heap.size + 1 + 1, 2 + x.1, none⟩ (.int .i64 (kp (l.getD x.1 0)))) ∧ Below w.heap.size V (V.setCell ⟨w.heap.size + 1 + 1, 2 + x.1, none⟩ (.int .i64 (kp (l.getD x.1 0)))) ∧
          ((Boxed (V.setCell ⟨w.heap.size + 1 + 1, 2 + x.1, none⟩ (.int .i64 (kp (l.getD x.1 0)))) w.heap.size 26 (.slice ad l.length cap) ∧ Blk (V.setCell ⟨w.heap.size + 1 + 1, 2 + x.1, none⟩ (.int .i64 (kp (l.getD x.1 0)))) (w.heap.size + 1) 50 (Value.int .i64 0 :: Value.int .u64 0 :: zs).toArray ∧
            Blk (V.setCell ⟨w.heap.size + 1 + 1, 2 + x.1, none⟩ (.int .i64 (kp (l.getD x.1 0)))) (w.heap.size + 1 + 1) 50 (row kt sN (part ⟨tick, l, S⟩ (valN (pre ++ [x])))).toArray) ∧ Below w.heap.size w (V.setCell ⟨w.heap.size + 1 + 1, 2 + x.1, none⟩ (.int .i64 (kp (l.getD x.1 0)))))) := Lib.hid (by
        have hB2 := (Below.refl w.heap.size V).setCell (p := ⟨w.heap.size + 1 + 1, 2 + x.1, none⟩) (by simp; try omega) (.int .i64 (kp (l.getD x.1 0)))
        have hP := part_put hN hx64
        refine ⟨(KeepsOthers.setCell _ _ _).from _, hB2, ⟨Blk.far (t := 26) (cs := #[.slice ad l.length cap]) hL (show w.heap.size ≠ w.heap.size + 1 + 1 by omega) _, hR.far (show w.heap.size + 1 ≠ w.heap.size + 1 + 1 by omega) _, ?_⟩, hB.trans hB2⟩
        unfold valN at hP ⊢
        rw [List.map_append]
        exact hP)
      clear hL hR hN hB hcx HSN HH CK
      subst had
      generalize kp (l.getD x.1 0) = kx at *
      generalize l.getD x.1 0 = lx at *
      gi_wp2_with (refine ⟨trivial, fun hh => absurd hh Bool.false_ne_true, ?_⟩; gi_at_call 23; refine (CallsIn.inRound l' (callsIn_wide.2 (CKx.out _))).mono ?_; rintro e w' ⟨rfl, rfl⟩)
      exact HF.out
    case done =>
      rintro D ys V hD hys ⟨⟨hL, hR, hN⟩, hB⟩ hK
      have HV : Hid (valN ys = mem sN) := Lib.hid hys
      rw [HV.out] at hN
      have HE : Hid (ncells ⟨tick, l, S⟩ = row kt sN (part ⟨tick, l, S⟩ (mem sN))) := Lib.hid (by unfold ncells told; rw [hsN.out, hkt.out])
      have hne : D ≠ w.heap.size + 1 := by omega
      have hlR : (Value.int .i64 0 :: Value.int .u64 0 :: zs).toArray.size = 66 := by simp [hzl]
      have hlN := row_len kt sN (part ⟨tick, l, S⟩ (mem sN))
      have hoN := row_one kt sN (part ⟨tick, l, S⟩ (mem sN))
      have HX : Hid ((V.setRow (w.heap.size + 1) (row kt sN (part ⟨tick, l, S⟩ (mem sN))).toArray).heap[D]? = some (.deferred (some [])) ∧ Blk (V.setRow (w.heap.size + 1) (row kt sN (part ⟨tick, l, S⟩ (mem sN))).toArray) (w.heap.size + 1) 50 (row kt sN (part ⟨tick, l, S⟩ (mem sN))).toArray ∧ Below w.heap.size w (V.setRow (w.heap.size + 1) (row kt sN (part ⟨tick, l, S⟩ (mem sN))).toArray)) := Lib.hid
        ⟨(setRow_other V (w.heap.size + 1) D _ hne).trans hK, hR.setRow _, hB.grown (setRow_grown V (w.heap.size + 1) _) hB.size (fun k e => by cases e; omega)⟩
      generalize row kt sN (part ⟨tick, l, S⟩ (mem sN)) = cs at *
      refine hKK2 _ _ ?_
      refine wpIn_wide.2 ?_
      go_wp2_with (first
        | (refine load_note rfl _ rfl (w.heap.size + 1 + 1) rfl cs.toArray (by simpa using hlN) hN ?_)
        | (refine store_res rfl _ _ rfl (w.heap.size + 1) cs rfl rfl hlN hoN _ hR hlR ?_))
      obtain ⟨hK2, hR2, hB2⟩ := HX.out
      refine ⟨by simp, .inl ⟨_, _, rfl, run_takeDeferred hK2, ?_⟩⟩
      exact ⟨_, results_note rfl _ _ (w.heap.size + 1) cs.toArray rfl (blk_putObj hR2 _ (by omega)) (by simpa using hlN), by rw [HE.out], hB2.trans (belowK_b (w := w) (Nat.le_refl _) _ D _ _ (by omega) hK2 rfl rfl)⟩
    case stop =>
      rintro D c pre W _ _ h _
      exact h.elim
  refine wpIn_wide.2 ?_
  have cL := bL.cell
  have hne := World.new_ne W0 ⟨w.heap.size, 0, none⟩ cL
  clear hKK bL bR hB0
  go_region_held3 (fun W => W.cell? ⟨w.heap.size, 0, none⟩ = some (.slice ad l.length cap)) (go_keep) (first
    | (go_at_call 23; refine (CK0.out _).mono ?_; rintro e w' ⟨rfl, rfl⟩)
    | (go_at_call 24; refine (CA.out _).mono ?_; rintro e w' ⟨rfl, rfl⟩))
  all_goals exact CONT.out
theorem noted_any (tick : Int) (ad : Option Addr) (cap : Nat) (l : List Int) (S : Nat) (hS : S < 18446744073709551616) (w : World) (h : I64s.Sl w ad cap l) (hT : Tabs w) :
    Calls Tryd.prog 18 #[.int .i64 tick, .slice ad l.length cap, .int .u64 (S : Int)] w fun e w' => e = .returned (.agg (ncells ⟨tick, l, S⟩).toArray) ∧ Below w.heap.size w w' := callsIn_wide.1 (noted_in 3 (Nat.le_refl _) tick ad cap l S hS w h hT)
end Go.Proofs.YtmkdemdeejhonaaDoor.Drf
