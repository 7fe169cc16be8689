/- Contracts of package reach (layer 17): the nodes that are left; whom a ring is linked with. -/
import Derived.Test.YtbgigimapogkcaaDoorEachA
import Derived.Test.YtbgigimapogkcaaDoorGrfB
import Derived.Test.YtbgigimapogkcaaDoorReaN
namespace Go.Proofs.YtbgigimapogkcaaDoor.Rea
open Go.RowKit Go.Shelf Go.ChangeShapes Go.WideShapes
open Grf (Pr GR Ok nearP)
open Nodes (Tabs Nod encN each_any each_stops boxed_kept mem ret_int)
set_option linter.unusedVariables false
attribute [local go_sem] Oper.semAt_some
/-- A pointer to a graph, or to none. -/
def GP (w : World) (p : Option Addr) (n : Nat) (L : List Pr) : Prop := (p = none ∧ n = 0 ∧ L = []) ∨ ∃ g b, p = some ⟨g, 0, none⟩ ∧ GR w g b n L
section
variable {w w' : World} {p : Option Addr} {n : Nat} {L : List Pr}
theorem GP.below (h : GP w p n L) (hB : Below w.heap.size w w') : GP w' p n L := by
  rcases h with h | ⟨g, b, e, h⟩
  · exact .inl h
  · exact .inr ⟨g, b, e, h.below hB⟩
theorem GP.le (h : GP w p n L) : n ≤ 64 := by
  rcases h with ⟨_, h, _⟩ | ⟨g, b, e, h⟩
  · omega
  · exact h.le
theorem GP.ok (h : GP w p n L) : Ok n L := by
  rcases h with ⟨_, rfl, rfl⟩ | ⟨g, b, e, h⟩
  · exact Grf.ok_nil 0
  · exact h.ok
end
theorem gpn_any (p : Option Addr) (n : Nat) (L : List Pr) (w : World) (h : GP w p n L) :
    Calls Tryd.prog 26 #[.pointer p] w fun e w' => e = .returned (.int .i64 (n : Int)) ∧ w = w' := by
  rcases h with ⟨rfl, rfl, rfl⟩ | ⟨g, b, rfl, h⟩
  · exact Grf.n_nil w
  · exact Grf.n_any g b n L w h
theorem gpnear_any (p : Option Addr) (n : Nat) (L : List Pr) (z : Int) (w : World) (h : GP w p n L) :
    Calls Tryd.prog 24 #[.pointer p, .int .i64 z] w fun e w' => e = .returned (.int .u64 ((nearP L z : Nat) : Int)) ∧ w = w' := by
  rcases h with ⟨rfl, rfl, rfl⟩ | ⟨g, b, rfl, h⟩
  · rw [Grf.near_nil]; exact Grf.near_nilg z w
  · exact Grf.near_any g b n L z w h
theorem left_any (p : Option Addr) (n : Nat) (L : List Pr) (S : Nat) (hS : S < 18446744073709551616) (w : World) (h : GP w p n L) :
    Calls Tryd.prog 40 #[.pointer p, .int .u64 S] w fun e w' => e = .returned (.int .u64 (leftN n S : Nat)) ∧ w = w' := by
  have hn := h.le
  have C1 := Lib.hid (gpn_any p n L w h)
  have C2 := Lib.hid (Nodes.all_any (n : Int) (by omega) (by omega) w)
  have HA := Lib.hid (u64_andNot_nat (Nodes.allN (n : Int)) S (Nodes.setP_lt _) hS)
  clear h
  go_enter Tryd.func40, Tryd.ntmps40
  go_wp2_with fail
  refine (C1.out).mono ?_; rintro e w' ⟨rfl, rfl⟩
  go_wp2_with fail
  refine (C2.out).mono ?_; rintro e w' ⟨rfl, rfl⟩
  go_wp2_with fail
  go_ret
  exact ⟨ret_int HA.out, rfl⟩
def valN (pre : List Nod) : List Nat := pre.map Fin.val
set_option maxRecDepth 100000 in
set_option maxHeartbeats 2000000 in
theorem about_in (N : Nat) (hN3 : 3 ≤ N) (p : Option Addr) (n : Nat) (L : List Pr) (S : Nat) (hS : S < 18446744073709551616) (w : World) (h : GP w p n L) (hT : Tabs w) :
    CallsIn Fence.wide N Tryd.prog 58 #[.pointer p, .int .u64 S] w fun e w' => e = .returned (.int .u64 (aboutL L (mem S) : Nat)) ∧ Below w.heap.size w w' := by
  have h1 : 1 ≤ N := by omega
  have CE := Lib.hid (fun W => each_any S W)
  have HM := Lib.hid (Nodes.mem_le S)
  refine callsIn_of_wp_marks Tryd.func58 rfl trivial ?_ rfl
  simp only [Tryd.ntmps58, List.size_toArray, List.length_cons, List.length_nil, Nat.reduceAdd, Nat.reduceSub, Array.replicate_succ, Array.replicate_zero, List.push_toArray, List.append_toArray, List.nil_append, List.cons_append]
  gi_wp2_with (refine ⟨trivial, ?_⟩; gi_at_call 59; refine (callsIn_wide.2 (CE.out _)).mono ?_; rintro e w' ⟨rfl, rfl⟩)
  have bG := ((Boxed.new w 26 (.pointer p)).alloc (.cells #[.int .u64 0] 31)).alloc (.cells #[.int .u64 (S : Int)] 31)
  have bA := (Boxed.new (w.alloc (.cells #[.pointer p] 26)) 31 (.int .u64 0)).alloc (.cells #[.int .u64 (S : Int)] 31)
  have bS := Boxed.new ((w.alloc (.cells #[.pointer p] 26)).alloc (.cells #[.int .u64 0] 31)) 31 (.int .u64 (S : Int))
  have hB0 : Below w.heap.size w (((w.alloc (.cells #[.pointer p] 26)).alloc (.cells #[.int .u64 0] 31)).alloc (.cells #[.int .u64 (S : Int)] 31)) := (((Below.refl _ w).alloc (Nat.le_refl _) _).alloc (by simp) _).alloc (by simp; omega) _
  simp only [World.size_alloc] at bA bS
  obtain ⟨W0, hW0⟩ : ∃ W0, ((w.alloc (.cells #[.pointer p] 26)).alloc (.cells #[.int .u64 0] 31)).alloc (.cells #[.int .u64 (S : Int)] 31) = W0 := ⟨_, rfl⟩
  have hs0 : W0.heap.size = w.heap.size + 1 + 1 + 1 := by rw [← hW0]; simp
  rw [hW0] at bG bA bS hB0 ⊢
  have hTL := hT.below hB0
  have HG := Lib.hid h
  refine wpIn_rangeFunc_ownG rfl h1 (gf := 60) (lb := #[.pointer (some ⟨w.heap.size + 1 + 1, 0, none⟩)]) rfl trivial (enters_of Tryd.func60 (by kernel_rfl) rfl)
    (each_stops (N - 1) (by omega) (w.heap.size + 1 + 1) w.heap.size S hS W0 (by omega) (by omega) bS.cell hTL hT.2) belowK_t (belowK_b (by omega)) (Below.refl _ _) (fun _ => rfl)
    (fun pre W => (Boxed W w.heap.size 26 (.pointer p) ∧ Boxed W (w.heap.size + 1) 31 (.int .u64 (aboutL L (valN pre) : Nat))) ∧ Below w.heap.size w W)
    (fun _ _ _ => False)
    (OwnFrom.and (Own.from (fun s A B row hs hg hr => ⟨boxed_kept hs.1 hg hr, boxed_kept hs.2 hg hr⟩) _) (ownFrom_below (Nat.le_refl _) (by omega)))
    (fun _ _ _ _ _ hs _ _ => hs)
    ⟨⟨bG, by unfold valN; rw [List.map_nil, about_nil]; exact bA⟩, hB0⟩
    (fun x => { tmps := #[.pointer p, .int .u64 (S : Int), .pointer (some ⟨w.heap.size, 0, none⟩), undef, .int .u64 0, .pointer (some ⟨w.heap.size + 1, 0, none⟩), .int .i64 ((x.val : Nat) : Int), .int .u64 (S : Int),
      .func (.func 60) #[] #[.pointer (some ⟨w.heap.size + 1 + 1, 0, none⟩)], .int .i64 ((x.val : Nat) : Int), undef, undef, undef, undef, undef, undef], defers := [] }) ?assign ?body ?done ?stop
  case assign =>
    intro l x W K hK
    unfold Nodes.encN Nodes.encV
    gi_wp2
    exact hK
  case body =>
    rintro l pre x W ⟨⟨hG, hA⟩, hB⟩ _
    have hmx : Tryd.prog.follows .mixedOrders = true := by kernel_rfl
    have cG := hG.cell
    have cA := hA.cell
    have fA := hA.frozen
    have CN := Lib.hid (fun W' (hB' : Below w.heap.size w W') => gpnear_any p n L ((x.val : Nat) : Int) W' (HG.out.below hB'))
    have HO := Lib.hid (u64_or_nat (aboutL L (valN pre)) (nearP L ((x.val : Nat) : Int)) (about_lt _) (Grf.near_lt _ _))
    have HS := Lib.hid (about_snoc (L := L) (valN pre) x.val)
    have HB := Lib.hid hB
    generalize nearP L ((x.val : Nat) : Int) = nv at *
    generalize hpv : valN pre = vp at *
    have HV : Hid (valN (pre ++ [x]) = vp ++ [x.val]) := Lib.hid (by rw [← hpv]; simp [valN])
    have HF : Hid (KeepsFrom W0.heap.size W (W.setCell ⟨w.heap.size + 1, 0, none⟩ (.int .u64 (bits .or .u64 (aboutL L vp : Nat) nv))).drew ∧ Below w.heap.size W (W.setCell ⟨w.heap.size + 1, 0, none⟩ (.int .u64 (bits .or .u64 (aboutL L vp : Nat) nv))).drew ∧
        ((Boxed (W.setCell ⟨w.heap.size + 1, 0, none⟩ (.int .u64 (bits .or .u64 (aboutL L vp : Nat) nv))).drew w.heap.size 26 (.pointer p) ∧ Boxed (W.setCell ⟨w.heap.size + 1, 0, none⟩ (.int .u64 (bits .or .u64 (aboutL L vp : Nat) nv))).drew (w.heap.size + 1) 31 (.int .u64 (aboutL L (valN (pre ++ [x])) : Nat))) ∧ Below w.heap.size w (W.setCell ⟨w.heap.size + 1, 0, none⟩ (.int .u64 (bits .or .u64 (aboutL L vp : Nat) nv))).drew)) := Lib.hid (by
      have hB2 := (Below.refl w.heap.size W).setCell (p := ⟨w.heap.size + 1, 0, none⟩) (by simp) (.int .u64 (bits .or .u64 (aboutL L vp : Nat) nv))
      refine ⟨((KeepsOthers.setCell _ _ _).trans (KeepsOthers.drew _)).from _, hB2.drew, ⟨hG.other (by omega) _, ?_⟩, (hB.trans hB2).drew⟩
      rw [HV.out, ← HS.out, ← HO.out]
      exact hA.set _)
    clear hpv HO HS HV hG hA hB
    gi_wp2
    gi_region_with_o (refine ⟨trivial, fun hh => absurd hh Bool.false_ne_true, ?_⟩; gi_at_call 24; refine (CallsIn.inRound l (callsIn_wide.2 (CN.out _ ?_))).mono ?_; (focus (first | exact HB.out | exact HB.out.drew)); rintro e w' ⟨rfl, rfl⟩)
    all_goals gi_wp2
    all_goals exact HF.out
  case done =>
    rintro D ys W hD hys ⟨⟨hG, hA⟩, hB⟩ hK
    have hc := hA.cell
    have HV : Hid (valN ys = mem S) := Lib.hid hys
    rw [HV.out] at hc
    gi_wp2
    refine ⟨by simp, .inl ⟨_, _, rfl, run_takeDeferred hK, ?_⟩⟩
    exact ⟨_, results_tmp rfl _ _ _, rfl, hB.trans (belowK_b (w := w) (Nat.le_refl _) W D _ _ (by omega) hK rfl rfl)⟩
  case stop =>
    rintro D c pre W _ _ h _
    exact h.elim
theorem about_any (p : Option Addr) (n : Nat) (L : List Pr) (S : Nat) (hS : S < 18446744073709551616) (w : World) (h : GP w p n L) (hT : Tabs w) :
    Calls Tryd.prog 58 #[.pointer p, .int .u64 S] w fun e w' => e = .returned (.int .u64 (aboutL L (mem S) : Nat)) ∧ Below w.heap.size w w' := callsIn_wide.1 (about_in 3 (Nat.le_refl _) p n L S hS w h hT)
end Go.Proofs.YtbgigimapogkcaaDoor.Rea
