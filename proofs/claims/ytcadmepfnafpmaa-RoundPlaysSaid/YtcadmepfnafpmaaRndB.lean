/- Contracts of package round (layer 25): Who, over the map in whatever order. -/
import Derived.Test.YtcadmepfnafpmaaRndA
import Derived.Test.YtcadmepfnafpmaaNodesA
import Derived.Laws.IdiomRangeMap
import Derived.LoopN
namespace Go.Proofs.Ytcadmepfnafpmaa.Rnd
open Go.ChangeShapes Go.WideShapes Go.ChangeAt Go.RowKit Go.Maps
set_option linter.unusedVariables false
set_option linter.unusedSimpArgs false
theorem ret_int {k : IntKind} {a b : Int} (h : a = b) : Ending.returned (.int k a) = .returned (.int k b) := by rw [h]
theorem rwho_none {B g : Nat} {no : Int} (w : World) (h : RR w B g no none []) :
    Calls Try.prog 16 #[.pointer (some ⟨g, 0, none⟩)] w fun e w' => e = .returned (.int .u64 ((whoR [] : Nat) : Int)) ∧ Below w.heap.size w w' := by
  have c1 := h.c1
  have H0 := Lib.hid who_nil
  have hrg := run_range_nilMap (P := Try.prog) w 53 3 2 Try.underlying53
  have hnx : ∀ ty, (Instr.next (.pointer (some ⟨w.heap.size, 0, none⟩)) false ty).run Try.prog (w.alloc (.mapIter none 0 #[] 0)) = _ := fun ty => run_next_nilMap _ ty 0 0 #[]
  have HB := Lib.hid ((Below.refl w.heap.size w).alloc (Nat.le_refl _) (.mapIter none 0 #[] 0))
  clear h
  generalize whoR [] = q at *
  go_enter Try.func16, Try.ntmps16
  go_wp2_with fail
  refine wp_loop_rounds 1 ?_
  rw [rounds_succ]
  go_wp2_with fail
  go_ret
  exact ⟨ret_int (by rw [H0.out]; rfl), HB.out⟩
theorem rwho_some {B g b : Nat} {no : Int} {L : List Rg} (w : World) (h : RR w B g no (some b) L) :
    Calls Try.prog 16 #[.pointer (some ⟨g, 0, none⟩)] w fun e w' => e = .returned (.int .u64 ((whoR L : Nat) : Int)) ∧ Below w.heap.size w w' := by
  have c1 := h.c1
  obtain ⟨b', D, e, hBb, hown, hm⟩ : ∃ b' D, some b = some b' ∧ B ≤ b' ∧ OM w b' L.length D ∧ Md D L := by
    rcases h.map with ⟨e, _⟩ | h
    · cases e
    · exact h
  cases e
  have HM := Lib.hid hm
  have HO := Lib.hid h.ok
  have hbl := hown.lt
  clear hm hBb h
  obtain ⟨n, hn⟩ : ∃ n, L.length = n := ⟨_, rfl⟩
  rw [hn] at hown
  unfold OM at hown
  go_enter Try.func16, Try.ntmps16
  go_wp2_with (first
    | (at_range; refine wpList_range_own _ rfl _ 53 rfl 3 2 lawI Try.underlying53 _ b n _ rfl hown ?_; intro w0 hrg0 hg0 hs0)
    | go_in)
  go_frame
  go_loopw [3, 4] (fun s _ wr => ∃ (left : Lit → Bool) (cnt q : Nat), wr.ranges Try.prog 3 (plainElem Try.prog 2) b w.heap.size n D left cnt ∧ s = .int .u64 (q : Int) ∧ Hid (q = whoR (metR L (lf left))) ∧ q < 18446744073709551616 ∧ Below w.heap.size w wr) (fun _ _ wr => wr.rangeLeft b w.heap.size)
  case atStart => exact ⟨_, _, 0, hrg0, rfl, Lib.hid (by rw [met_start (left := lf (Maps.has D)) (fun x => HM.out.has_ x), who_nil]), by omega, (Below.refl _ _).grown hg0 (Nat.le_refl _) (fun j hj => by cases hj)⟩
  case round =>
    obtain ⟨left, cnt, q, hrg, rfl, hq, q2, hB⟩ := hrel
    go_wp2_with (first
      | (at_next; refine wpList_next_ranges_ii _ rfl _ rfl 3 2 .i64 .i64 lawI Try.underlying3 Try.underlying2 b w.heap.size n _ _ _ rfl hrg ?_ ?_)
      | go_in)
    · intro hc0 hl0
      have HQ := Lib.hid (show q = whoR L by rw [hq.out, met_end (left := lf left) (fun x => hl0 _)])
      go_wp2_with fail
      go_ret
      exact ⟨ret_int (by rw [HQ.out]), hB⟩
    · intro x c w1 cnt1 hwx hwc hlx hat hrg1 hlt hg1 hs1 hen
      have hmem := HM.out.came hat
      obtain ⟨x0, x1⟩ := HO.out.rng _ hmem
      have HS := Lib.hid (who_step HO.out.nd hmem (left := lf left) hlx (lf_step left x))
      clear hmem hat hlx
      obtain ⟨j, rfl⟩ := Int.eq_ofNat_of_zero_le (show 0 ≤ x from x0)
      have hj : j < 64 := by have : ((j : Nat) : Int) ≤ 63 := x1; omega
      have hsh := Nodes.shl_one j hj
      have HO2 := Lib.hid (u64_or_nat q (Nodes.bitN j) q2 (Nodes.bitN_lt j))
      have hj0 : (0 : Int) ≤ (j : Int) := by omega
      go_wp2_with fail
      go_roundw
      case rel => exact ⟨_, cnt1, q ||| Nodes.bitN j, hrg1, by first | rw [HO2.out] | rw [hsh, HO2.out], Lib.hid (by rw [HS.out, hq.out]), Nodes.or_lt q2 (Nodes.bitN_lt j), hB.grown hg1 hB.size (fun k hk => by cases hk; exact Nat.le_refl _)⟩
      case measure => rw [hrg1.left_eq, hrg.left_eq]; exact hlt
theorem rwho_any {B g : Nat} {no : Int} {mb : Option Nat} {L : List Rg} (w : World) (h : RR w B g no mb L) :
    Calls Try.prog 16 #[.pointer (some ⟨g, 0, none⟩)] w fun e w' => e = .returned (.int .u64 ((whoR L : Nat) : Int)) ∧ Below w.heap.size w w' := by
  cases mb with
  | some b => exact rwho_some w h
  | none =>
    obtain rfl : L = [] := by
      rcases h.map with ⟨_, e⟩ | ⟨b, D, e, _⟩
      · exact e
      · cases e
    exact rwho_none w h
end Go.Proofs.Ytcadmepfnafpmaa.Rnd
