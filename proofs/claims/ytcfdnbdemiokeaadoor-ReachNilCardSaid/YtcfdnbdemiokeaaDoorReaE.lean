/- Contracts of package reach (layer 17): how wide a graph is. -/
import Derived.Test.YtcfdnbdemiokeaaDoorReaD
namespace Go.Proofs.YtcfdnbdemiokeaaDoor.Rea
open Go.RowKit Go.Shelf Go.ChangeShapes Go.WideShapes Go.ChangeAt
open Grf (Pr GR Ok nearP)
open Nodes (Tabs encV each_any each_stops_of boxed_kept mem ret_int)
set_option linter.unusedVariables false
attribute [local go_sem] Oper.semAt_some
/-- The greatest distance from any of some nodes, as far as they go. -/
def WP (n S : Nat) (L : List Pr) (xs : List Nat) (v : Nat) : Prop := (∀ x ∈ xs, ∀ y, dst n S L x y ≤ (v : Int)) ∧ (v = 0 ∨ ∃ x ∈ xs, ∃ y, dst n S L x y = (v : Int))
theorem WP.nil (n S : Nat) (L : List Pr) : WP n S L [] 0 := ⟨by simp, .inl rfl⟩
theorem WP.snoc {n S : Nat} {L : List Pr} {xs : List Nat} {v x c : Nat} (h : WP n S L xs v) (hx : hereB n S x = true) (hc : IsCnt n S L x c) : WP n S L (xs ++ [x]) (max v (c - 1)) ∧ 1 ≤ c := by
  have h0 := hc.1 x
  rw [dst_zero.2 ⟨rfl, hx⟩] at h0
  have hc1 : 1 ≤ c := by omega
  refine ⟨⟨fun z hz y => ?_, ?_⟩, hc1⟩
  · rcases List.mem_append.1 hz with h1 | h1
    · have := h.1 z h1 y; omega
    · rw [List.mem_singleton.1 h1]
      have := hc.1 y; omega
  · by_cases hm : v ≤ c - 1
    · obtain ⟨y, hy⟩ := hc.2 (c - 1) (by omega)
      exact .inr ⟨x, by simp, y, by rw [hy]; omega⟩
    · rcases h.2 with h1 | ⟨z, hz, y, hy⟩
      · omega
      · exact .inr ⟨z, by simp [hz], y, by rw [hy]; omega⟩
theorem WP.wide {n S : Nat} {L : List Pr} {v : Nat} (hn : n ≤ 64) (hS : S < 18446744073709551616) (hw : wholeP n S L) (h : WP n S L (mem (leftN n S)) v) : IsWide n S L (v : Int) := by
  refine .inr ⟨hw, ?_, fun x y hx hy => h.1 x (Nodes.mem_mem.2 ⟨here64 hn hx, by rw [bit_left hn hS]; exact hx⟩) y⟩
  rcases h.2 with rfl | ⟨x, hx, y, hy⟩
  · obtain ⟨⟨x, hx⟩, _⟩ := hw
    exact ⟨x, x, hx, hx, dst_zero.2 ⟨rfl, hx⟩⟩
  · have := dst_here (n := n) (S := S) (L := L) (i := x) (x := y) (by rw [hy]; omega)
    exact ⟨x, y, this.2, this.1, hy⟩
theorem WP.le {n S : Nat} {L : List Pr} {xs : List Nat} {v : Nat} (hn : n ≤ 64) (h : WP n S L xs v) : v ≤ 64 := by
  rcases h.2 with rfl | ⟨x, hx, y, hy⟩
  · omega
  · have := dst_hi (n := n) (S := S) (L := L) x y (by rw [hy]; omega)
    omega
abbrev Here (n S : Nat) := {x : Nat // hereB n S x = true}
def vals (n S : Nat) (pre : List (Here n S)) : List Nat := pre.map Subtype.val
set_option maxRecDepth 100000 in
set_option maxHeartbeats 4000000 in
theorem wide_in (N : Nat) (hN3 : 3 ≤ N) (p : Option Addr) (n : Nat) (L : List Pr) (S : Nat) (hS : S < 18446744073709551616) (u : Int) (hu : IsWide n S L u) (w : World) (h : GP w p n L) (hT : Tabs w) :
    CallsIn Fence.wide N Tryd.prog 16 #[.pointer p, .int .u64 S] w fun e w' => e = .returned (.int .i64 u) ∧ Below w.heap.size w w' := by
  have h1 : 1 ≤ N := by omega
  have hn := h.le
  have HN := Lib.hid hn
  have CW := Lib.hid (fun W (hB : Below w.heap.size w W) => whole_any p n L S hS W (h.below hB) (hT.below hB))
  have CL := Lib.hid (fun W (hB : Below w.heap.size w W) => left_any p n L S hS W (h.below hB))
  have CE := Lib.hid (fun W => each_any (leftN n S) W)
  have CR := Lib.hid (fun (x : Nat) (hx : x < 64) W (hB : Below w.heap.size w W) => rings_any p n L (x : Int) S hS W (h.below hB) (hT.below hB))
  have HT := Lib.hid hT
  have HU := Lib.hid hu
  have HS := Lib.hid hS
  have HB1 : Hid (Below w.heap.size w ((w.alloc (.cells #[.pointer p] 26)).alloc (.cells #[.int .u64 S] 34))) := Lib.hid (((Below.refl _ _).alloc (Nat.le_refl _) _).alloc (by simp) _)
  have CWW := Lib.hid (CW.out _ HB1.out)
  clear h hT hu CW
  cases hwb : wholeB n S L with
  | false =>
    rw [hwb] at CWW
    have HE : Hid (u = -1) := Lib.hid (by
      rcases HU.out with ⟨_, e⟩ | ⟨a, _⟩
      · exact e
      · rw [wholeB_iff.2 a] at hwb; cases hwb)
    clear hwb CL CE CR
    refine callsIn_of_wp_marks Tryd.func16 rfl trivial ?_ rfl
    simp only [Tryd.ntmps16, List.size_toArray, List.length_cons, List.length_nil, Nat.reduceAdd, Nat.reduceSub, Array.replicate_succ, Array.replicate_zero, List.push_toArray, List.append_toArray, List.nil_append, List.cons_append]
    gi_wp2_with (refine ⟨trivial, ?_⟩; gi_at_call 17; refine (callsIn_wide.2 CWW.out).mono ?_; rintro e w' ⟨rfl, hBx⟩)
    exact ⟨_, results_tmp rfl _ _ _, by rw [HE.out]; rfl, HB1.out.trans (hBx.mono HB1.out.size)⟩
  | true =>
    rw [hwb] at CWW
    have HW : Hid (wholeP n S L) := Lib.hid (wholeB_iff.1 hwb)
    clear hwb
    refine callsIn_of_wp_marks Tryd.func16 rfl trivial ?_ rfl
    simp only [Tryd.ntmps16, List.size_toArray, List.length_cons, List.length_nil, Nat.reduceAdd, Nat.reduceSub, Array.replicate_succ, Array.replicate_zero, List.push_toArray, List.append_toArray, List.nil_append, List.cons_append]
    have HX : Hid (∀ V, Below ((w.alloc (.cells #[.pointer p] 26)).alloc (.cells #[.int .u64 (S : Int)] 34)).heap.size ((w.alloc (.cells #[.pointer p] 26)).alloc (.cells #[.int .u64 (S : Int)] 34)) V → Boxed V w.heap.size 26 (.pointer p) ∧ Boxed V (w.heap.size + 1) 34 (.int .u64 (S : Int)) ∧ Below w.heap.size w V ∧ w.heap.size + 1 < V.heap.size) := Lib.hid (fun V hV => by
      have b1 := (Boxed.new w 26 (.pointer p)).alloc (.cells #[.int .u64 (S : Int)] 34)
      have b2 := Boxed.new (w.alloc (.cells #[.pointer p] 26)) 34 (.int .u64 (S : Int))
      rw [World.size_alloc] at b2
      have e2 := (hV.block _ b2.lt).trans b2
      exact ⟨(hV.block _ b1.lt).trans b1, e2, HB1.out.trans (hV.mono HB1.out.size), Boxed.lt e2⟩)
    gi_wp2_with (first
      | (refine ⟨trivial, ?_⟩; gi_at_call 17; refine (callsIn_wide.2 CWW.out).mono ?_; rintro e w1 ⟨rfl, hBx⟩; obtain ⟨hG, hO, hBw, hlt⟩ := HX.out _ hBx; have cG := (hG.alloc (.cells #[.int .i64 0] 3)).cell; have cO := (hO.alloc (.cells #[.int .i64 0] 3)).cell; clear hBx)
      | (refine ⟨trivial, ?_⟩; gi_at_call 28; refine (callsIn_wide.2 (CL.out _ ?_)).mono ?_; (focus (exact hBw.alloc hBw.size _)); rintro e w' ⟨rfl, rfl⟩)
      | (refine ⟨trivial, ?_⟩; gi_at_call 25; refine (callsIn_wide.2 (CE.out _)).mono ?_; rintro e w' ⟨rfl, rfl⟩))
    have bG := (hG.alloc (.cells #[.int .i64 0] 3)).alloc (.cells #[.int .u64 (leftN n S : Nat)] 34)
    have bO := (hO.alloc (.cells #[.int .i64 0] 3)).alloc (.cells #[.int .u64 (leftN n S : Nat)] 34)
    have bW := (Boxed.new w1 3 (.int .i64 0)).alloc (.cells #[.int .u64 (leftN n S : Nat)] 34)
    have bS := Boxed.new (w1.alloc (.cells #[.int .i64 0] 3)) 34 (.int .u64 (leftN n S : Nat))
    rw [World.size_alloc] at bS
    have hB0 := (hBw.alloc hBw.size (.cells #[.int .i64 0] 3)).alloc (by simp; have := hBw.size; omega) (.cells #[.int .u64 (leftN n S : Nat)] 34)
    obtain ⟨W0, hW0⟩ : ∃ W0, (w1.alloc (.cells #[.int .i64 0] 3)).alloc (.cells #[.int .u64 (leftN n S : Nat)] 34) = W0 := ⟨_, rfl⟩
    have hs0 : W0.heap.size = w1.heap.size + 1 + 1 := by rw [← hW0]; simp
    rw [hW0] at bG bO bW bS hB0 ⊢
    have hTL := HT.out.below hB0
    have HLT := Lib.hid (left_lt n S)
    have HVAL : Hid (∀ x ∈ mem (leftN n S), ∃ a : Here n S, a.1 = x) := Lib.hid (fun x hx => ⟨⟨x, by have := (Nodes.mem_mem.1 hx).2; rwa [bit_left HN.out HS.out] at this⟩, rfl⟩)
    have HWD := Lib.hid (fun v (hv : WP n S L (mem (leftN n S)) v) => wide_eq (hv.wide HN.out HS.out HW.out) HU.out)
    have hw1 := hBw.size
    have HW1 := Lib.hid hBw.size
    clear hG hO cG cO hBw CWW CE CL HU HW HX HB1
    obtain ⟨ln, hln⟩ : ∃ ln, Hid (leftN n S = ln) := ⟨_, Lib.hid rfl⟩
    rw [hln.out] at HLT HVAL HWD bS ⊢
    obtain ⟨B1, hB1e⟩ : ∃ B1, w1.heap.size = B1 := ⟨_, rfl⟩
    rw [hB1e] at bW bS hs0 hw1 hlt ⊢
    clear hln hW0
    refine wpIn_rangeFunc_ownG rfl h1 (gf := 36) (lb := #[.pointer (some ⟨B1 + 1, 0, none⟩)]) rfl trivial (enters_of Tryd.func36 (by kernel_rfl) rfl)
      (each_stops_of (α := Here n S) Subtype.val (N - 1) (by omega) (B1 + 1) w.heap.size ln HLT.out HVAL.out W0 (by omega) (by omega) bS.cell hTL HT.out.2) belowK_t (belowK_b (by omega)) (Below.refl _ _) (fun _ => rfl)
      (fun pre V => ((∃ v : Nat, Boxed V B1 3 (.int .i64 (v : Int)) ∧ WP n S L (vals n S pre) v) ∧ Boxed V w.heap.size 26 (.pointer p) ∧ Boxed V (w.heap.size + 1) 34 (.int .u64 (S : Int))) ∧ Below w.heap.size w V)
      (fun _ _ _ => False)
      (OwnFrom.and (Own.from (fun s A B row hs hg hr => ⟨hs.1.elim fun v hv => ⟨v, boxed_kept hv.1 hg hr, hv.2⟩, boxed_kept hs.2.1 hg hr, boxed_kept hs.2.2 hg hr⟩) _) (ownFrom_below (Nat.le_refl _) (by omega)))
      (fun _ _ _ _ _ hs _ _ => hs)
      ⟨⟨⟨0, bW, WP.nil n S L⟩, bG, bO⟩, hB0⟩
      (fun x => { tmps := #[.pointer p, .int .u64 (S : Int), .pointer (some ⟨w.heap.size, 0, none⟩), .pointer (some ⟨w.heap.size + 1, 0, none⟩), .int .i64 0, .pointer (some ⟨B1, 0, none⟩), .int .i64 ((x.1 : Nat) : Int), .pointer p, .int .u64 (S : Int), .bool true, .bool false, .pointer p, .int .u64 (S : Int), .int .u64 (ln : Int),
        .func (.func 36) #[] #[.pointer (some ⟨B1 + 1, 0, none⟩)], .int .i64 ((x.1 : Nat) : Int), undef, undef, undef, undef, undef, undef, undef, undef, undef], defers := [] }) ?assign ?body ?done ?stop
    case assign =>
      intro l x V K hK
      unfold encV
      gi_wp2
      exact hK
    case body =>
      rintro l pre x V ⟨⟨⟨v, hbW, hv⟩, hbG, hbO⟩, hBV⟩ _
      have hmx : Tryd.prog.follows .mixedOrders = true := by kernel_rfl
      have hx := x.2
      have hx64 := here64 hn hx
      have HBV := Lib.hid hBV
      have hv64 := hv.le hn
      have CRX := Lib.hid (fun W hB => CR.out x.1 hx64 W hB)
      rw [src_nat hx64] at CRX
      have HF : Hid (∀ (V4 : World) (c : Nat), Below V.heap.size V V4 → IsCnt n S L x.1 c → 1 ≤ c ∧ c ≤ 64 ∧ V4.cell? ⟨w.heap.size, 0, none⟩ = some (.pointer p) ∧ V4.cell? ⟨w.heap.size + 1, 0, none⟩ = some (.int .u64 (S : Int)) ∧ V4.cell? ⟨B1, 0, none⟩ = some (.int .i64 (v : Int)) ∧ V4.frozen? ⟨B1, 0, none⟩ = false ∧
          (∀ m : Nat, m = max v (c - 1) → KeepsFrom W0.heap.size V (V4.setCell ⟨B1, 0, none⟩ (.int .i64 (m : Int))) ∧ Below w.heap.size V (V4.setCell ⟨B1, 0, none⟩ (.int .i64 (m : Int))) ∧ ((∃ v' : Nat, Boxed (V4.setCell ⟨B1, 0, none⟩ (.int .i64 (m : Int))) B1 3 (.int .i64 (v' : Int)) ∧ WP n S L (vals n S (pre ++ [x])) v') ∧
            Boxed (V4.setCell ⟨B1, 0, none⟩ (.int .i64 (m : Int))) w.heap.size 26 (.pointer p) ∧ Boxed (V4.setCell ⟨B1, 0, none⟩ (.int .i64 (m : Int))) (w.heap.size + 1) 34 (.int .u64 (S : Int))) ∧ Below w.heap.size w (V4.setCell ⟨B1, 0, none⟩ (.int .i64 (m : Int))))) := Lib.hid (fun V4 c hB4 hcnt => by
        have g4 := (hB4.block _ hbG.lt).trans hbG
        have o4 := (hB4.block _ hbO.lt).trans hbO
        have w4 := (hB4.block _ hbW.lt).trans hbW
        obtain ⟨hwp, hc1⟩ := hv.snoc hx hcnt
        have hb2 := (hB4.mono HBV.out.size).setCell (p := ⟨B1, 0, none⟩) (by simp; omega)
        refine ⟨hc1, by have := cnt_le hcnt; omega, Boxed.cell g4, Boxed.cell o4, Boxed.cell w4, Boxed.frozen w4, fun m hm => ?_⟩
        have hk4 : KeepsOthers V V4 := ⟨hB4.size, fun j o hj _ => (hB4.block j (Array.getElem?_eq_some_iff.1 hj).1).trans hj⟩
        refine ⟨(hk4.trans (KeepsOthers.setCell _ _ _)).from _, hb2 _, ⟨⟨m, Boxed.set _ w4, by rw [hm]; unfold vals; rw [List.map_append]; exact hwp⟩, Boxed.far g4 (by omega) _, Boxed.far o4 (by omega) _⟩, HBV.out.trans (hb2 _)⟩)
      have cG := hbG.cell
      have cO := hbO.cell
      have cW := hbW.cell
      have fW := hbW.frozen
      clear hbG hbO hbW hv hBV hx hx64
      gi_wp2
      gi_region_with_o (refine ⟨trivial, fun hh => absurd hh Bool.false_ne_true, ?_⟩; gi_at_call 24; refine (CallsIn.inRound l (callsIn_wide.2 (CRX.out _ ?_))).mono ?_; (focus (first | exact HBV.out | exact HBV.out.drew)); rintro e V4 ⟨c, adr, capr, rfl, hcnt, -, hB4⟩; obtain ⟨hc1, hc64, d1, d2, d3, d4, HE⟩ := HF.out V4 c ((Below.refl V.heap.size V).drew.trans hB4) hcnt; have HEE := Lib.hid HE; clear HE hcnt)
      all_goals gi_wp2
      all_goals (
        have e2 : max (v : Int) (IntKind.i64.wrap ((c : Int) - 1)) = ((max v (c - 1) : Nat) : Int) := by rw [IntKind.wrap_i64]; omega
        rw [e2]
        exact HEE.out _ rfl)
    case done =>
      rintro D ys V hD hys ⟨⟨⟨v, hbW, hv⟩, hbG, hbO⟩, hBV⟩ hK
      have hys' : vals n S ys = mem ln := hys
      rw [hys'] at hv
      have HE := Lib.hid (HWD.out v hv)
      have hc := hbW.cell
      rw [HE.out] at hc
      gi_wp2
      refine ⟨by simp, .inl ⟨_, _, rfl, run_takeDeferred hK, ?_⟩⟩
      exact ⟨_, results_tmp rfl _ _ _, rfl, hBV.trans (belowK_b (w := w) (Nat.le_refl _) V D _ _ (by omega) hK rfl rfl)⟩
    case stop =>
      rintro D c pre W _ _ h _
      exact h.elim
theorem wide_any (p : Option Addr) (n : Nat) (L : List Pr) (S : Nat) (hS : S < 18446744073709551616) (u : Int) (hu : IsWide n S L u) (w : World) (h : GP w p n L) (hT : Tabs w) :
    Calls Tryd.prog 16 #[.pointer p, .int .u64 S] w fun e w' => e = .returned (.int .i64 u) ∧ Below w.heap.size w w' := callsIn_wide.1 (wide_in 3 (Nat.le_refl _) p n L S hS u hu w h hT)
end Go.Proofs.YtcfdnbdemiokeaaDoor.Rea
