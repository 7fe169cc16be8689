/- What a kind has (layer 11): partsOf, isNo. -/
import Derived.Test.YtocfamocemmihaaDatG
import Derived.Test.YtocfamocemmihaaHedH
namespace Go.Proofs.Ytocfamocemmihaa.Pul
open Go.ChangeShapes Go.WideShapes Go.ChangeAt Go.RowKit Go.Deep
open Go.Proofs.Ytocfamocemmihaa.Byt Go.Proofs.Ytocfamocemmihaa.Key Go.Proofs.Ytocfamocemmihaa.Buf Go.Proofs.Ytocfamocemmihaa.Hed Go.Proofs.Ytocfamocemmihaa.Dat
set_option linter.unusedVariables false
set_option linter.unusedSimpArgs false
/-- Which parts stand behind a head. -/
def pcs (a b c : Bool) : Array Value := #[.bool a, .bool b, .bool c]
/-- What a kind has. -/
def kcs (k : Int) : Array Value := pcs (k == 1 || k == 2) (k == 2) (k == 3)
theorem infoPt : (Try.prog.info? 55).map (·.size) = some 3 := by kernel_rfl
theorem pcs_one (a b c : Bool) : (pcs a b c).all (·.oneCell') = true := by simp [pcs, Value.oneCell']
theorem results_pt {fn : Func} {i : Nat} (h : fn.results = #[.cell i 55]) (tmps : Array Value) (w : World) (g : Nat) (cs : Array Value)
    (hp : tmps.getD i undef = .pointer (some ⟨g, 0, none⟩)) (hg : Blk w g 55 cs) (hs : cs.size = 3) :
    (results fn tmps).run Try.prog w = .ok (.agg cs) w := by
  have hp' : tmps[i]?.getD undef = .pointer (some ⟨g, 0, none⟩) := by simpa using hp
  simp [results, h, hp', asAddr, run_loadVar_row w g 55 _ cs (0, 0) _ hg Try.underlying55 rfl (by rw [hs]; exact infoPt)]
theorem pts_fin {w W : World} {a b c a' b' c' : Bool} (h1 : Blk W w.heap.size 55 (pcs a' b' c')) (h2 : Below w.heap.size w W) :
    Blk (W.setRow w.heap.size (pcs a b c)) w.heap.size 55 (pcs a b c) ∧ Below w.heap.size w (W.setRow w.heap.size (pcs a b c)) := ⟨Blk.row h1 _ rfl, below_setRow h2 (Nat.le_refl _) _⟩
set_option maxRecDepth 100000 in
set_option maxHeartbeats 1000000 in
theorem parts_any (k : Int) (w : World) :
    Calls Try.prog 28 #[.int .i64 k] w fun e w' => e = .returned (.agg (kcs k)) ∧ Below w.heap.size w w' := by
  obtain ⟨wb, hwb⟩ : ∃ wb, Hid (wb = (w.alloc (.cells (pcs false false false) 55)).alloc (.cells (pcs false false false) 55)) := ⟨_, Lib.hid rfl⟩
  have HX := Lib.hid (boxes_tt w wb _ _ _ _ hwb.out)
  have O : Hid (∀ a b c, (pcs a b c).all (·.oneCell') = true) := Lib.hid (fun a b c => pcs_one a b c)
  have HF : Hid (∀ W a b c, Blk W w.heap.size 55 (pcs false false false) → Below w.heap.size w W → _ ∧ _) := Lib.hid (fun W a b c h1 h2 => pts_fin (a := a) (b := b) (c := c) h1 h2)
  unfold pcs at hwb HX O HF
  unfold kcs pcs
  by_cases h1 : k = 1
  · subst h1
    obtain ⟨hB, x1, x2⟩ := HX.out
    have k0 := (HX.out.2.2).cell 0
    have f0 := (HX.out.2.2).free 0
    simp only [List.getElem?_toArray, List.getElem?_cons_succ, List.getElem?_cons_zero] at k0
    clear hB x1 x2
    go_enter Try.func28, Try.ntmps28
    go_upto_region 2 with fail
    rw [← hwb.out]
    go_upto_region 9 with fail
    obtain ⟨W2, hW2⟩ : ∃ W2, Hid (W2 = (wb.setCell ⟨w.heap.size + 1, 0, none⟩ (.bool true))) := ⟨_, Lib.hid rfl⟩
    have b2 : Hid (Blk W2 (w.heap.size + 1) 55 #[.bool true, .bool false, .bool false]) := Lib.hid (by rw [hW2.out]; exact (HX.out.2.2.put 0 (.bool true)))
    have b1 : Hid (Blk W2 w.heap.size 55 #[.bool false, .bool false, .bool false]) := Lib.hid (by rw [hW2.out]; exact (HX.out.2.1.far (p := ⟨w.heap.size + 1, 0, none⟩) (by simp) (.bool true)))
    have hB : Hid (Below w.heap.size w W2) := Lib.hid (by rw [hW2.out]; exact (HX.out.1.setCell (p := ⟨w.heap.size + 1, 0, none⟩) (by simp) (.bool true)))
    rw [← hW2.out]
    clear k0 f0
    have q := HF.out W2 true false false b1.out hB.out
    have o := Lib.hid (O.out true false false)
    have q1 := Lib.hid q.1
    have q2 := Lib.hid q.2
    clear q O HF HX hwb hB
    go_wp2_with (first
      | (refine wpList_load_row rfl 55 _ rfl _ rfl _ #[.bool true, .bool false, .bool false] _ _ b2.out Try.underlying55 rfl infoPt ?_)
      | (refine wpList_store_row rfl 55 _ _ rfl _ #[.bool true, .bool false, .bool false] rfl rfl _ _ b1.out infoPt rfl o.out ?_))
    exact bodyPost_ret (results_pt rfl _ _ w.heap.size _ rfl q1.out rfl) rfl ⟨by simp, q2.out⟩
  by_cases h2 : k = 2
  · subst h2
    obtain ⟨hB, x1, x2⟩ := HX.out
    have k1 := (HX.out.2.2).cell 1
    have f1 := (HX.out.2.2).free 1
    have k0 := (HX.out.2.2).cell 0
    have f0 := (HX.out.2.2).free 0
    simp only [List.getElem?_toArray, List.getElem?_cons_succ, List.getElem?_cons_zero] at k1 k0
    clear hB x1 x2
    go_enter Try.func28, Try.ntmps28
    go_upto_region 2 with fail
    rw [← hwb.out]
    go_upto_region 9 with fail
    obtain ⟨W2, hW2⟩ : ∃ W2, Hid (W2 = ((wb.setCell ⟨w.heap.size + 1, 1, none⟩ (.bool true)).setCell ⟨w.heap.size + 1, 0, none⟩ (.bool true))) := ⟨_, Lib.hid rfl⟩
    have b2 : Hid (Blk W2 (w.heap.size + 1) 55 #[.bool true, .bool true, .bool false]) := Lib.hid (by rw [hW2.out]; exact ((HX.out.2.2.put 1 (.bool true)).put 0 (.bool true)))
    have b1 : Hid (Blk W2 w.heap.size 55 #[.bool false, .bool false, .bool false]) := Lib.hid (by rw [hW2.out]; exact ((HX.out.2.1.far (p := ⟨w.heap.size + 1, 1, none⟩) (by simp) (.bool true)).far (p := ⟨w.heap.size + 1, 0, none⟩) (by simp) (.bool true)))
    have hB : Hid (Below w.heap.size w W2) := Lib.hid (by rw [hW2.out]; exact ((HX.out.1.setCell (p := ⟨w.heap.size + 1, 1, none⟩) (by simp) (.bool true)).setCell (p := ⟨w.heap.size + 1, 0, none⟩) (by simp) (.bool true)))
    rw [← hW2.out]
    clear k1 f1 k0 f0
    have q := HF.out W2 true true false b1.out hB.out
    have o := Lib.hid (O.out true true false)
    have q1 := Lib.hid q.1
    have q2 := Lib.hid q.2
    clear q O HF HX hwb hB
    go_wp2_with (first
      | (refine wpList_load_row rfl 55 _ rfl _ rfl _ #[.bool true, .bool true, .bool false] _ _ b2.out Try.underlying55 rfl infoPt ?_)
      | (refine wpList_store_row rfl 55 _ _ rfl _ #[.bool true, .bool true, .bool false] rfl rfl _ _ b1.out infoPt rfl o.out ?_))
    exact bodyPost_ret (results_pt rfl _ _ w.heap.size _ rfl q1.out rfl) rfl ⟨by simp, q2.out⟩
  by_cases h3 : k = 3
  · subst h3
    obtain ⟨hB, x1, x2⟩ := HX.out
    have k2 := (HX.out.2.2).cell 2
    have f2 := (HX.out.2.2).free 2
    simp only [List.getElem?_toArray, List.getElem?_cons_succ, List.getElem?_cons_zero] at k2
    clear hB x1 x2
    go_enter Try.func28, Try.ntmps28
    go_upto_region 2 with fail
    rw [← hwb.out]
    go_upto_region 9 with fail
    obtain ⟨W2, hW2⟩ : ∃ W2, Hid (W2 = (wb.setCell ⟨w.heap.size + 1, 2, none⟩ (.bool true))) := ⟨_, Lib.hid rfl⟩
    have b2 : Hid (Blk W2 (w.heap.size + 1) 55 #[.bool false, .bool false, .bool true]) := Lib.hid (by rw [hW2.out]; exact (HX.out.2.2.put 2 (.bool true)))
    have b1 : Hid (Blk W2 w.heap.size 55 #[.bool false, .bool false, .bool false]) := Lib.hid (by rw [hW2.out]; exact (HX.out.2.1.far (p := ⟨w.heap.size + 1, 2, none⟩) (by simp) (.bool true)))
    have hB : Hid (Below w.heap.size w W2) := Lib.hid (by rw [hW2.out]; exact (HX.out.1.setCell (p := ⟨w.heap.size + 1, 2, none⟩) (by simp) (.bool true)))
    rw [← hW2.out]
    clear k2 f2
    have q := HF.out W2 false false true b1.out hB.out
    have o := Lib.hid (O.out false false true)
    have q1 := Lib.hid q.1
    have q2 := Lib.hid q.2
    clear q O HF HX hwb hB
    go_wp2_with (first
      | (refine wpList_load_row rfl 55 _ rfl _ rfl _ #[.bool false, .bool false, .bool true] _ _ b2.out Try.underlying55 rfl infoPt ?_)
      | (refine wpList_store_row rfl 55 _ _ rfl _ #[.bool false, .bool false, .bool true] rfl rfl _ _ b1.out infoPt rfl o.out ?_))
    exact bodyPost_ret (results_pt rfl _ _ w.heap.size _ rfl q1.out rfl) rfl ⟨by simp, q2.out⟩
  have e1 : (k == 1) = false := by simpa using h1
  have e2 : (k == 2) = false := by simpa using h2
  have e3 : (k == 3) = false := by simpa using h3
  rw [e1, e2, e3]
  simp only [Bool.or_false]
  obtain ⟨hB, x1, x2⟩ := HX.out
  clear hB x1 x2
  go_enter Try.func28, Try.ntmps28
  go_upto_region 2 with fail
  rw [← hwb.out]
  go_upto_region 9 with fail
  obtain ⟨W2, hW2⟩ : ∃ W2, Hid (W2 = wb) := ⟨_, Lib.hid rfl⟩
  have b2 : Hid (Blk W2 (w.heap.size + 1) 55 #[.bool false, .bool false, .bool false]) := Lib.hid (by rw [hW2.out]; exact HX.out.2.2)
  have b1 : Hid (Blk W2 w.heap.size 55 #[.bool false, .bool false, .bool false]) := Lib.hid (by rw [hW2.out]; exact HX.out.2.1)
  have hB : Hid (Below w.heap.size w W2) := Lib.hid (by rw [hW2.out]; exact HX.out.1)
  have hW2 := hW2.out
  subst hW2
  have q := HF.out W2 false false false b1.out hB.out
  have o := Lib.hid (O.out false false false)
  have q1 := Lib.hid q.1
  have q2 := Lib.hid q.2
  clear q O HF HX hwb hB
  go_wp2_with (first
    | (refine wpList_load_row rfl 55 _ rfl _ rfl _ #[.bool false, .bool false, .bool false] _ _ b2.out Try.underlying55 rfl infoPt ?_)
    | (refine wpList_store_row rfl 55 _ _ rfl _ #[.bool false, .bool false, .bool false] rfl rfl _ _ b1.out infoPt rfl o.out ?_))
  exact bodyPost_ret (results_pt rfl _ _ w.heap.size _ rfl q1.out rfl) rfl ⟨by simp, q2.out⟩
/-- May a round have such a number? -/
def noOk (n : Int) : Bool := decide (0 ≤ n) && decide (n ≤ 1152921504606846976)
theorem isno_any (n : Int) (w : World) :
    Calls Try.prog 30 #[.int .i64 n] w fun e w' => e = .returned (.bool (noOk n)) ∧ w = w' := by
  unfold noOk
  obtain ⟨a, ha⟩ : ∃ a, decide (0 ≤ n) = a := ⟨_, rfl⟩
  obtain ⟨b, hb⟩ : ∃ b, decide (n ≤ 1152921504606846976) = b := ⟨_, rfl⟩
  have ha2 : decide (n ≥ 0) = a := ha
  rw [ha, hb]
  cases a with
  | false =>
    go_enter Try.func30, Try.ntmps30
    go_wp2_with fail
    go_ret
    exact ⟨rfl, rfl⟩
  | true =>
    go_enter Try.func30, Try.ntmps30
    go_wp2_with fail
    go_ret
    exact ⟨by simp, rfl⟩
end Go.Proofs.Ytocfamocemmihaa.Pul
